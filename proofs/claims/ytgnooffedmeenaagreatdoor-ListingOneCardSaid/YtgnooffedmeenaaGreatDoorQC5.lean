/-
  Part 5 of the proofs of LNamesRow, LOneRow: what is laid, and what the functions that the law runs answer. Conditions: each theorem names its own.
-/
import Derived.IntWalk
import Derived.LaidLaws
import Derived.LaidMore
import Derived.Lib.AppendIntMem
import Derived.Lib.SmallJoins
import Derived.OpenShut
import Derived.Test.YtgnooffedmeenaaGreatDoorQC4
namespace Go.Proofs.YtgnooffedmeenaaGreatDoor.O
open Go.RowKit

abbrev instV (op a b : Int) : Value := .agg #[.int .i64 op, .int .i64 a, .int .i64 b]
def rowR (op a b : Int) : Row := if okI op a b = true then rowAt op else row0
theorem rowR_ok {op a b : Int} (h : okI op a b = true) : rowR op a b = rowAt op := by unfold rowR; rw [if_pos h]
theorem rowR_no {op a b : Int} (h : okI op a b = false) : rowR op a b = row0 := by unfold rowR; rw [if_neg (by rw [h]; decide)]
theorem kinds_ok (op : Int) : 0 ≤ (rowAt op).ka ∧ (rowAt op).ka ≤ 10 ∧ 0 ≤ (rowAt op).kb ∧ (rowAt op).kb ≤ 10 := by
 have := rowAt_all (p := fun r => decide (0 ≤ r.ka ∧ r.ka ≤ 10 ∧ 0 ≤ r.kb ∧ r.kb ≤ 10)) (by decide) (by decide) op
 simpa using this

theorem has_gen (k n : Int) (v : Value) (t : Bool) (w : World) (ht : inK k n = t) (hv : ∃ sh gu, v = opV k sh gu) :
  Calls Tryz.prog 217 #[v, .int .i64 n] w fun e w' => e = .returned (.bool t) ∧ Keep NoB w w' := by
 subst ht; exact has_any k n v w hv
theorem op_gen (k : Int) (hk : 0 ≤ k ∧ k ≤ 10) (w : World) :
  Calls Tryz.prog 216 #[.int .i64 k] w fun e w' => ∃ u, e = .returned u ∧ (∃ sh gu, u = opV k sh gu) ∧ Keep NoB w w' :=
 (operandOf_any k hk w).mono fun _ _ ⟨sh, gu, he, _, hk⟩ => ⟨_, he, ⟨sh, gu, rfl⟩, hk⟩
abbrev cells9 (q : Row) : Array Value := #[.string (str q.name), .int .i64 q.ka, .int .i64 q.kb, .int .i64 q.ta, .int .i64 q.tb, .int .i64 q.la, .int .i64 q.lb, .bool q.hop, .bool q.fin]

def ForR (q : Row) (t : Bool) (w : World) (e : Ending) (w' : World) : Prop := e = .returned (.tuple #[rowV q, .bool t]) ∧ Keep NoB w w'

set_option maxRecDepth 100000 in
set_option maxHeartbeats 1000000 in
theorem rowFor_a (op a b : Int) (q : Row) (w : World) (HQ : Hid (rowAt op = q)) (HI : Hid (isOp op = false)) :
  Calls Tryz.prog 166 #[instV op a b] w (ForR row0 false w) := by
 go_enter Tryz.func166, Tryz.ntmps166
 go_wp2_with fail
 refine (rowOf_any op q _ HQ).mono ?_
 rw [HI.out]
 rintro e w1 ⟨rfl, k1⟩
 have bx := ((Blk.new w 55 #[.int .i64 op, .int .i64 a, .int .i64 b]).alloc (.cells rowZ 137)).keep k1 id
 have br := (Blk.new (w.alloc (.cells #[.int .i64 op, .int .i64 a, .int .i64 b] 55)) 137 rowZ).keep k1 id
 rw [World.size_alloc] at br
 have hK := keepN (((Keep.refl NoB w).alloc _).alloc _) k1
 have hz := br.lt
 go_wp2_with fail
 have b2 := Blk.new w1 137 #[.string (str q.name), .int .i64 q.ka, .int .i64 q.kb, .int .i64 q.ta, .int .i64 q.tb, .int .i64 q.la, .int .i64 q.lb, .bool q.hop, .bool q.fin]
 have bx2 := bx.alloc (.cells #[.string (str q.name), .int .i64 q.ka, .int .i64 q.kb, .int .i64 q.ta, .int .i64 q.tb, .int .i64 q.la, .int .i64 q.lb, .bool q.hop, .bool q.fin] 137)
 have br2 := br.alloc (.cells #[.string (str q.name), .int .i64 q.ka, .int .i64 q.kb, .int .i64 q.ta, .int .i64 q.tb, .int .i64 q.la, .int .i64 q.lb, .bool q.hop, .bool q.fin] 137)
 have hK2 := hK.alloc (.cells #[.string (str q.name), .int .i64 q.ka, .int .i64 q.kb, .int .i64 q.ta, .int .i64 q.tb, .int .i64 q.la, .int .i64 q.lb, .bool q.hop, .bool q.fin] 137)
 obtain ⟨w2, hw2⟩ : ∃ w2, w1.alloc (.cells #[.string (str q.name), .int .i64 q.ka, .int .i64 q.kb, .int .i64 q.ta, .int .i64 q.tb, .int .i64 q.la, .int .i64 q.lb, .bool q.hop, .bool q.fin] 137) = w2 := ⟨_, rfl⟩
 rw [hw2] at b2 bx2 br2 hK2
 have HW := Lib.hid hw2
 rw [hw2]
 clear hw2 bx br hK k1
 ·refine wp_region_sh ((0, false) :: (1, false) :: (2, false) :: (3, false) :: (4, false) :: (5, false) :: (7, false) :: (8, false) :: (6, true) :: (9, false) :: (10, false) :: (11, false) :: (12, false) :: (13, false) :: (14, false) :: (15, false) :: (17, false) :: (18, false) :: (16, true) :: (19, false) :: (20, false) :: (21, false) :: []) (fun w' => Keep NoB w2 w') (by kernel_rfl) (by kernel_rfl) (by rfl) (by kernel_rfl) (stable_keep w2) (Keep.refl NoB w2).drew ?_
  refine shM_step rfl rfl rfl (by rfl) (by rfl) ?_
  apply Exists.intro
  refine ⟨fun n K hK => ?_, ?_, ?_⟩
  ·go_big_quiet_op
   exact hK _ rfl
  ·kernel_rfl
  refine shM_step rfl rfl rfl (by rfl) (by rfl) ?_
  apply Exists.intro
  refine ⟨fun n K hK => ?_, ?_, ?_⟩
  ·go_big_quiet_op
   exact hK _ rfl
  ·kernel_rfl
  refine shM_step rfl rfl rfl (by rfl) (by rfl) ?_
  apply Exists.intro
  refine ⟨fun n K hK => ?_, ?_, ?_⟩
  ·go_big_quiet_op
   exact hK _ rfl
  ·kernel_rfl
  refine shM_skip rfl (by kernel_rfl) (by kernel_rfl) ?_
  refine shM_skip rfl (by kernel_rfl) (by kernel_rfl) ?_
  refine shM_skip rfl (by kernel_rfl) (by kernel_rfl) ?_
  refine shM_skip rfl (by kernel_rfl) (by kernel_rfl) ?_
  refine shM_skip rfl (by kernel_rfl) (by kernel_rfl) ?_
  refine shM_skip rfl (by kernel_rfl) (by kernel_rfl) ?_
  refine shM_skip rfl (by kernel_rfl) (by kernel_rfl) ?_
  refine shM_skip rfl (by kernel_rfl) (by kernel_rfl) ?_
  refine shM_step rfl rfl rfl (by rfl) (by rfl) ?_
  apply Exists.intro
  refine ⟨fun n K hK => ?_, ?_, ?_⟩
  ·go_big_quiet_op
   exact hK _ rfl
  ·kernel_rfl
  refine shM_step rfl rfl rfl (by rfl) (by rfl) ?_
  apply Exists.intro
  refine ⟨fun n K hK => ?_, ?_, ?_⟩
  ·go_big_quiet_op
   exact hK _ rfl
  ·kernel_rfl
  refine shM_skip rfl (by kernel_rfl) (by kernel_rfl) ?_
  refine shM_skip rfl (by kernel_rfl) (by kernel_rfl) ?_
  refine shM_skip rfl (by kernel_rfl) (by kernel_rfl) ?_
  refine shM_skip rfl (by kernel_rfl) (by kernel_rfl) ?_
  refine shM_skip rfl (by kernel_rfl) (by kernel_rfl) ?_
  refine shM_skip rfl (by kernel_rfl) (by kernel_rfl) ?_
  refine shM_skip rfl (by kernel_rfl) (by kernel_rfl) ?_
  refine shM_skip rfl (by kernel_rfl) (by kernel_rfl) ?_
  refine shM_step rfl rfl rfl (by rfl) (by rfl) ?_
  apply Exists.intro
  refine ⟨fun n K hK => ?_, ?_, ?_⟩
  ·go_big_quiet_op
   exact hK _ rfl
  ·kernel_rfl
  refine shM_nil (fun n => ?_)
  have k3 := n.has
  generalize n.w = w3 at k3 ⊢
  have b3 := b2.keep k3 id
  have br3 := br2.keep k3 id
  have hK3 := keepN hK2 k3
  have f0 := fun i => br3.frozen i
  obtain ⟨c0, c1, c2, c3, c4, c5, c6, c7, c8⟩ := blk9 br3
  have hz3 := br3.lt
  clear k3 b2 br2 hK2 bx2
  go_wp2
  exact bodyPost_ret (v := .tuple #[rowV row0, .bool false]) (by simp [results, Tryz.results166, go_sem, c0, c1, c2, c3, c4, c5, c6, c7, c8, row0]) rfl ⟨rfl, keep9 hK3 (Nat.le_succ _) _ _ _ _ _ _ _ _ _⟩

set_option maxRecDepth 100000 in
set_option maxHeartbeats 1000000 in
theorem rowFor_b (op a b : Int) (q : Row) (w : World) (HQ : Hid (rowAt op = q)) (HI : Hid (isOp op = true)) (HA : Hid (inK q.ka a = false)) (hka : 0 ≤ q.ka ∧ q.ka ≤ 10) :
  Calls Tryz.prog 166 #[instV op a b] w (ForR row0 false w) := by
 go_enter Tryz.func166, Tryz.ntmps166
 go_wp2_with fail
 refine (rowOf_any op q _ HQ).mono ?_
 rw [HI.out]
 rintro e w1 ⟨rfl, k1⟩
 have bx := ((Blk.new w 55 #[.int .i64 op, .int .i64 a, .int .i64 b]).alloc (.cells rowZ 137)).keep k1 id
 have br := (Blk.new (w.alloc (.cells #[.int .i64 op, .int .i64 a, .int .i64 b] 55)) 137 rowZ).keep k1 id
 rw [World.size_alloc] at br
 have hK := keepN (((Keep.refl NoB w).alloc _).alloc _) k1
 have hz := br.lt
 go_wp2_with fail
 have b2 := Blk.new w1 137 #[.string (str q.name), .int .i64 q.ka, .int .i64 q.kb, .int .i64 q.ta, .int .i64 q.tb, .int .i64 q.la, .int .i64 q.lb, .bool q.hop, .bool q.fin]
 have bx2 := bx.alloc (.cells #[.string (str q.name), .int .i64 q.ka, .int .i64 q.kb, .int .i64 q.ta, .int .i64 q.tb, .int .i64 q.la, .int .i64 q.lb, .bool q.hop, .bool q.fin] 137)
 have br2 := br.alloc (.cells #[.string (str q.name), .int .i64 q.ka, .int .i64 q.kb, .int .i64 q.ta, .int .i64 q.tb, .int .i64 q.la, .int .i64 q.lb, .bool q.hop, .bool q.fin] 137)
 have hK2 := hK.alloc (.cells #[.string (str q.name), .int .i64 q.ka, .int .i64 q.kb, .int .i64 q.ta, .int .i64 q.tb, .int .i64 q.la, .int .i64 q.lb, .bool q.hop, .bool q.fin] 137)
 obtain ⟨w2, hw2⟩ : ∃ w2, w1.alloc (.cells #[.string (str q.name), .int .i64 q.ka, .int .i64 q.kb, .int .i64 q.ta, .int .i64 q.tb, .int .i64 q.la, .int .i64 q.lb, .bool q.hop, .bool q.fin] 137) = w2 := ⟨_, rfl⟩
 rw [hw2] at b2 bx2 br2 hK2
 have HW := Lib.hid hw2
 rw [hw2]
 clear hw2 bx br hK k1
 ·refine wp_region_sh ((0, false) :: (1, false) :: (2, false) :: (3, false) :: (4, false) :: (5, false) :: (7, false) :: (8, false) :: (6, true) :: (9, false) :: (10, false) :: (11, false) :: (12, false) :: (13, false) :: (14, false) :: (15, false) :: (17, false) :: (18, false) :: (16, true) :: (19, false) :: (20, false) :: (21, false) :: []) (fun w' => Keep NoB w2 w') (by kernel_rfl) (by kernel_rfl) (by rfl) (by kernel_rfl) (stable_keep w2) (Keep.refl NoB w2).drew ?_
  refine shM_step rfl rfl rfl (by rfl) (by rfl) ?_
  apply Exists.intro
  refine ⟨fun n K hK => ?_, ?_, ?_⟩
  ·go_big_quiet_op
   exact hK _ rfl
  ·kernel_rfl
  refine shM_step rfl rfl rfl (by rfl) (by rfl) ?_
  apply Exists.intro
  refine ⟨fun n K hK => ?_, ?_, ?_⟩
  ·go_big_quiet_op
   exact hK _ rfl
  ·kernel_rfl
  refine shM_step rfl rfl rfl (by rfl) (by rfl) ?_
  apply Exists.intro
  refine ⟨fun n K hK => ?_, ?_, ?_⟩
  ·go_big_quiet_op
   exact hK _ rfl
  ·kernel_rfl
  refine shM_step rfl rfl rfl (by rfl) (by rfl) ?_
  apply Exists.intro
  refine ⟨fun n K hK => ?_, ?_, ?_⟩
  ·go_big_quiet_op
   exact hK _ rfl
  ·kernel_rfl
  refine shM_step rfl rfl rfl (by rfl) (by rfl) ?_
  apply Exists.intro
  refine ⟨fun n K hK => ?_, ?_, ?_⟩
  ·go_big_quiet_op
   exact hK _ rfl
  ·kernel_rfl
  refine shM_step rfl rfl rfl (by rfl) (by rfl) ?_
  apply Exists.intro
  refine ⟨fun n K hK => ?_, ?_, ?_⟩
  ·have q1 : ∀ m : KW n.w, m.w.cell? ⟨w1.heap.size, 1, none⟩ = some (.int .i64 q.ka) := fun m => (b2.keep (keepN n.has m.keep) id).cell 1
   go_big_quiet_op
   exact hK _ rfl
  ·kernel_rfl
  refine shM_step rfl rfl rfl (by rfl) (by rfl) ?_
  apply Exists.intro
  refine ⟨fun n K hK => ?_, ?_, ?_⟩
  ·go_big_quiet_op
   exact hK _ rfl
  ·kernel_rfl
  refine shM_step rfl rfl rfl (by rfl) (by rfl) ?_
  apply Exists.intro
  refine ⟨fun n K hK => ?_, ?_, ?_⟩
  ·have x1 : ∀ m : KW n.w, m.w.cell? ⟨w.heap.size, 1, none⟩ = some (.int .i64 a) := fun m => (bx2.keep (keepN n.has m.keep) id).cell 1
   go_big_quiet_op
   exact hK _ rfl
  ·kernel_rfl
  refine shM_gen rfl rfl (by kernel_rfl) (fun v _ => ∃ sh gu, v = opV q.ka sh gu) (fun v w w' h _ => h) (fun n => ?_) (fun v1 => ?_)
  ·unfold yieldsK
   go_simp
   exact op_gen q.ka hka _
  simp only [Act.put, List.setIfInBounds_toArray, List.set_cons_zero, List.set_cons_succ]
  refine shM_step rfl rfl rfl (by rfl) (by rfl) ?_
  apply Exists.intro
  refine ⟨fun n K hK => ?_, ?_, ?_⟩
  ·go_big_quiet_op
   apply Exists.intro
   refine ⟨fun m => ?_, ?_⟩
   ·go_at_call 217
    exact kept_of (has_gen q.ka a v1 false _ HA.out n.has.2)
   ·exact hK _ rfl
  ·kernel_rfl
  refine shM_step rfl rfl rfl (by rfl) (by rfl) ?_
  apply Exists.intro
  refine ⟨fun n K hK => ?_, ?_, ?_⟩
  ·go_big_quiet_op
   exact hK _ rfl
  ·kernel_rfl
  refine shM_step rfl rfl rfl (by rfl) (by rfl) ?_
  apply Exists.intro
  refine ⟨fun n K hK => ?_, ?_, ?_⟩
  ·go_big_quiet_op
   exact hK _ rfl
  ·kernel_rfl
  refine shM_step rfl rfl rfl (by rfl) (by rfl) ?_
  apply Exists.intro
  refine ⟨fun n K hK => ?_, ?_, ?_⟩
  ·go_big_quiet_op
   exact hK _ rfl
  ·kernel_rfl
  refine shM_skip rfl (by kernel_rfl) (by kernel_rfl) ?_
  refine shM_skip rfl (by kernel_rfl) (by kernel_rfl) ?_
  refine shM_skip rfl (by kernel_rfl) (by kernel_rfl) ?_
  refine shM_skip rfl (by kernel_rfl) (by kernel_rfl) ?_
  refine shM_skip rfl (by kernel_rfl) (by kernel_rfl) ?_
  refine shM_skip rfl (by kernel_rfl) (by kernel_rfl) ?_
  refine shM_skip rfl (by kernel_rfl) (by kernel_rfl) ?_
  refine shM_skip rfl (by kernel_rfl) (by kernel_rfl) ?_
  refine shM_step rfl rfl rfl (by rfl) (by rfl) ?_
  apply Exists.intro
  refine ⟨fun n K hK => ?_, ?_, ?_⟩
  ·go_big_quiet_op
   exact hK _ rfl
  ·kernel_rfl
  refine shM_nil (fun n => ?_)
  have k3 := n.has.1
  generalize n.w = w3 at k3 ⊢
  have b3 := b2.keep k3 id
  have br3 := br2.keep k3 id
  have hK3 := keepN hK2 k3
  have f0 := fun i => br3.frozen i
  obtain ⟨c0, c1, c2, c3, c4, c5, c6, c7, c8⟩ := blk9 br3
  have hz3 := br3.lt
  clear k3 b2 br2 hK2 bx2
  go_wp2
  exact bodyPost_ret (v := .tuple #[rowV row0, .bool false]) (by simp [results, Tryz.results166, go_sem, c0, c1, c2, c3, c4, c5, c6, c7, c8, row0]) rfl ⟨rfl, keep9 hK3 (Nat.le_succ _) _ _ _ _ _ _ _ _ _⟩

set_option maxRecDepth 100000 in
set_option maxHeartbeats 1000000 in
theorem rowFor_c (op a b : Int) (q : Row) (w : World) (HQ : Hid (rowAt op = q)) (HI : Hid (isOp op = true)) (HA : Hid (inK q.ka a = true)) (HB : Hid (inK q.kb b = false)) (hka : 0 ≤ q.ka ∧ q.ka ≤ 10) (hkb : 0 ≤ q.kb ∧ q.kb ≤ 10) :
  Calls Tryz.prog 166 #[instV op a b] w (ForR row0 false w) := by
 go_enter Tryz.func166, Tryz.ntmps166
 go_wp2_with fail
 refine (rowOf_any op q _ HQ).mono ?_
 rw [HI.out]
 rintro e w1 ⟨rfl, k1⟩
 have bx := ((Blk.new w 55 #[.int .i64 op, .int .i64 a, .int .i64 b]).alloc (.cells rowZ 137)).keep k1 id
 have br := (Blk.new (w.alloc (.cells #[.int .i64 op, .int .i64 a, .int .i64 b] 55)) 137 rowZ).keep k1 id
 rw [World.size_alloc] at br
 have hK := keepN (((Keep.refl NoB w).alloc _).alloc _) k1
 have hz := br.lt
 go_wp2_with fail
 have b2 := Blk.new w1 137 #[.string (str q.name), .int .i64 q.ka, .int .i64 q.kb, .int .i64 q.ta, .int .i64 q.tb, .int .i64 q.la, .int .i64 q.lb, .bool q.hop, .bool q.fin]
 have bx2 := bx.alloc (.cells #[.string (str q.name), .int .i64 q.ka, .int .i64 q.kb, .int .i64 q.ta, .int .i64 q.tb, .int .i64 q.la, .int .i64 q.lb, .bool q.hop, .bool q.fin] 137)
 have br2 := br.alloc (.cells #[.string (str q.name), .int .i64 q.ka, .int .i64 q.kb, .int .i64 q.ta, .int .i64 q.tb, .int .i64 q.la, .int .i64 q.lb, .bool q.hop, .bool q.fin] 137)
 have hK2 := hK.alloc (.cells #[.string (str q.name), .int .i64 q.ka, .int .i64 q.kb, .int .i64 q.ta, .int .i64 q.tb, .int .i64 q.la, .int .i64 q.lb, .bool q.hop, .bool q.fin] 137)
 obtain ⟨w2, hw2⟩ : ∃ w2, w1.alloc (.cells #[.string (str q.name), .int .i64 q.ka, .int .i64 q.kb, .int .i64 q.ta, .int .i64 q.tb, .int .i64 q.la, .int .i64 q.lb, .bool q.hop, .bool q.fin] 137) = w2 := ⟨_, rfl⟩
 rw [hw2] at b2 bx2 br2 hK2
 have HW := Lib.hid hw2
 rw [hw2]
 clear hw2 bx br hK k1
 ·refine wp_region_sh ((0, false) :: (1, false) :: (2, false) :: (3, false) :: (4, false) :: (5, false) :: (7, false) :: (8, false) :: (6, true) :: (9, false) :: (10, false) :: (11, false) :: (12, false) :: (13, false) :: (14, false) :: (15, false) :: (17, false) :: (18, false) :: (16, true) :: (19, false) :: (20, false) :: (21, false) :: []) (fun w' => Keep NoB w2 w') (by kernel_rfl) (by kernel_rfl) (by rfl) (by kernel_rfl) (stable_keep w2) (Keep.refl NoB w2).drew ?_
  refine shM_step rfl rfl rfl (by rfl) (by rfl) ?_
  apply Exists.intro
  refine ⟨fun n K hK => ?_, ?_, ?_⟩
  ·go_big_quiet_op
   exact hK _ rfl
  ·kernel_rfl
  refine shM_step rfl rfl rfl (by rfl) (by rfl) ?_
  apply Exists.intro
  refine ⟨fun n K hK => ?_, ?_, ?_⟩
  ·go_big_quiet_op
   exact hK _ rfl
  ·kernel_rfl
  refine shM_step rfl rfl rfl (by rfl) (by rfl) ?_
  apply Exists.intro
  refine ⟨fun n K hK => ?_, ?_, ?_⟩
  ·go_big_quiet_op
   exact hK _ rfl
  ·kernel_rfl
  refine shM_step rfl rfl rfl (by rfl) (by rfl) ?_
  apply Exists.intro
  refine ⟨fun n K hK => ?_, ?_, ?_⟩
  ·go_big_quiet_op
   exact hK _ rfl
  ·kernel_rfl
  refine shM_step rfl rfl rfl (by rfl) (by rfl) ?_
  apply Exists.intro
  refine ⟨fun n K hK => ?_, ?_, ?_⟩
  ·go_big_quiet_op
   exact hK _ rfl
  ·kernel_rfl
  refine shM_step rfl rfl rfl (by rfl) (by rfl) ?_
  apply Exists.intro
  refine ⟨fun n K hK => ?_, ?_, ?_⟩
  ·have q1 : ∀ m : KW n.w, m.w.cell? ⟨w1.heap.size, 1, none⟩ = some (.int .i64 q.ka) := fun m => (b2.keep (keepN n.has m.keep) id).cell 1
   go_big_quiet_op
   exact hK _ rfl
  ·kernel_rfl
  refine shM_step rfl rfl rfl (by rfl) (by rfl) ?_
  apply Exists.intro
  refine ⟨fun n K hK => ?_, ?_, ?_⟩
  ·go_big_quiet_op
   exact hK _ rfl
  ·kernel_rfl
  refine shM_step rfl rfl rfl (by rfl) (by rfl) ?_
  apply Exists.intro
  refine ⟨fun n K hK => ?_, ?_, ?_⟩
  ·have x1 : ∀ m : KW n.w, m.w.cell? ⟨w.heap.size, 1, none⟩ = some (.int .i64 a) := fun m => (bx2.keep (keepN n.has m.keep) id).cell 1
   go_big_quiet_op
   exact hK _ rfl
  ·kernel_rfl
  refine shM_gen rfl rfl (by kernel_rfl) (fun v _ => ∃ sh gu, v = opV q.ka sh gu) (fun v w w' h _ => h) (fun n => ?_) (fun v1 => ?_)
  ·unfold yieldsK
   go_simp
   exact op_gen q.ka hka _
  simp only [Act.put, List.setIfInBounds_toArray, List.set_cons_zero, List.set_cons_succ]
  refine shM_step rfl rfl rfl (by rfl) (by rfl) ?_
  apply Exists.intro
  refine ⟨fun n K hK => ?_, ?_, ?_⟩
  ·go_big_quiet_op
   apply Exists.intro
   refine ⟨fun m => ?_, ?_⟩
   ·go_at_call 217
    exact kept_of (has_gen q.ka a v1 true _ HA.out n.has.2)
   ·exact hK _ rfl
  ·kernel_rfl
  refine shM_step rfl rfl rfl (by rfl) (by rfl) ?_
  apply Exists.intro
  refine ⟨fun n K hK => ?_, ?_, ?_⟩
  ·go_big_quiet_op
   exact hK _ rfl
  ·kernel_rfl
  refine shM_step rfl rfl rfl (by rfl) (by rfl) ?_
  apply Exists.intro
  refine ⟨fun n K hK => ?_, ?_, ?_⟩
  ·go_big_quiet_op
   exact hK _ rfl
  ·kernel_rfl
  refine shM_step rfl rfl rfl (by rfl) (by rfl) ?_
  apply Exists.intro
  refine ⟨fun n K hK => ?_, ?_, ?_⟩
  ·go_big_quiet_op
   exact hK _ rfl
  ·kernel_rfl
  refine shM_step rfl rfl rfl (by rfl) (by rfl) ?_
  apply Exists.intro
  refine ⟨fun n K hK => ?_, ?_, ?_⟩
  ·go_big_quiet_op
   exact hK _ rfl
  ·kernel_rfl
  refine shM_step rfl rfl rfl (by rfl) (by rfl) ?_
  apply Exists.intro
  refine ⟨fun n K hK => ?_, ?_, ?_⟩
  ·go_big_quiet_op
   exact hK _ rfl
  ·kernel_rfl
  refine shM_step rfl rfl rfl (by rfl) (by rfl) ?_
  apply Exists.intro
  refine ⟨fun n K hK => ?_, ?_, ?_⟩
  ·have q1 : ∀ m : KW n.w, m.w.cell? ⟨w1.heap.size, 2, none⟩ = some (.int .i64 q.kb) := fun m => (b2.keep (keepN n.has.1 m.keep) id).cell 2
   go_big_quiet_op
   exact hK _ rfl
  ·kernel_rfl
  refine shM_step rfl rfl rfl (by rfl) (by rfl) ?_
  apply Exists.intro
  refine ⟨fun n K hK => ?_, ?_, ?_⟩
  ·go_big_quiet_op
   exact hK _ rfl
  ·kernel_rfl
  refine shM_step rfl rfl rfl (by rfl) (by rfl) ?_
  apply Exists.intro
  refine ⟨fun n K hK => ?_, ?_, ?_⟩
  ·have x1 : ∀ m : KW n.w, m.w.cell? ⟨w.heap.size, 2, none⟩ = some (.int .i64 b) := fun m => (bx2.keep (keepN n.has.1 m.keep) id).cell 2
   go_big_quiet_op
   exact hK _ rfl
  ·kernel_rfl
  refine shM_gen rfl rfl (by kernel_rfl) (fun v _ => ∃ sh gu, v = opV q.kb sh gu) (fun v w w' h _ => h) (fun n => ?_) (fun v2 => ?_)
  ·unfold yieldsK
   go_simp
   exact op_gen q.kb hkb _
  simp only [Act.put, List.setIfInBounds_toArray, List.set_cons_zero, List.set_cons_succ]
  refine shM_step rfl rfl rfl (by rfl) (by rfl) ?_
  apply Exists.intro
  refine ⟨fun n K hK => ?_, ?_, ?_⟩
  ·go_big_quiet_op
   apply Exists.intro
   refine ⟨fun m => ?_, ?_⟩
   ·go_at_call 217
    exact kept_of (has_gen q.kb b v2 false _ HB.out n.has.2)
   ·exact hK _ rfl
  ·kernel_rfl
  refine shM_step rfl rfl rfl (by rfl) (by rfl) ?_
  apply Exists.intro
  refine ⟨fun n K hK => ?_, ?_, ?_⟩
  ·go_big_quiet_op
   exact hK _ rfl
  ·kernel_rfl
  refine shM_step rfl rfl rfl (by rfl) (by rfl) ?_
  apply Exists.intro
  refine ⟨fun n K hK => ?_, ?_, ?_⟩
  ·go_big_quiet_op
   exact hK _ rfl
  ·kernel_rfl
  refine shM_nil (fun n => ?_)
  have k3 := n.has.1.1
  generalize n.w = w3 at k3 ⊢
  have b3 := b2.keep k3 id
  have br3 := br2.keep k3 id
  have hK3 := keepN hK2 k3
  have f0 := fun i => br3.frozen i
  obtain ⟨c0, c1, c2, c3, c4, c5, c6, c7, c8⟩ := blk9 br3
  have hz3 := br3.lt
  clear k3 b2 br2 hK2 bx2
  go_wp2
  exact bodyPost_ret (v := .tuple #[rowV row0, .bool false]) (by simp [results, Tryz.results166, go_sem, c0, c1, c2, c3, c4, c5, c6, c7, c8, row0]) rfl ⟨rfl, keep9 hK3 (Nat.le_succ _) _ _ _ _ _ _ _ _ _⟩

set_option maxRecDepth 100000 in
set_option maxHeartbeats 1000000 in
theorem rowFor_d (op a b : Int) (q : Row) (w : World) (HQ : Hid (rowAt op = q)) (HI : Hid (isOp op = true)) (HA : Hid (inK q.ka a = true)) (HB : Hid (inK q.kb b = true)) (hka : 0 ≤ q.ka ∧ q.ka ≤ 10) (hkb : 0 ≤ q.kb ∧ q.kb ≤ 10) :
  Calls Tryz.prog 166 #[instV op a b] w (ForR q true w) := by
 go_enter Tryz.func166, Tryz.ntmps166
 go_wp2_with fail
 refine (rowOf_any op q _ HQ).mono ?_
 rw [HI.out]
 rintro e w1 ⟨rfl, k1⟩
 have bx := ((Blk.new w 55 #[.int .i64 op, .int .i64 a, .int .i64 b]).alloc (.cells rowZ 137)).keep k1 id
 have br := (Blk.new (w.alloc (.cells #[.int .i64 op, .int .i64 a, .int .i64 b] 55)) 137 rowZ).keep k1 id
 rw [World.size_alloc] at br
 have hK := keepN (((Keep.refl NoB w).alloc _).alloc _) k1
 have hz := br.lt
 go_wp2_with fail
 have b2 := Blk.new w1 137 #[.string (str q.name), .int .i64 q.ka, .int .i64 q.kb, .int .i64 q.ta, .int .i64 q.tb, .int .i64 q.la, .int .i64 q.lb, .bool q.hop, .bool q.fin]
 have bx2 := bx.alloc (.cells #[.string (str q.name), .int .i64 q.ka, .int .i64 q.kb, .int .i64 q.ta, .int .i64 q.tb, .int .i64 q.la, .int .i64 q.lb, .bool q.hop, .bool q.fin] 137)
 have br2 := br.alloc (.cells #[.string (str q.name), .int .i64 q.ka, .int .i64 q.kb, .int .i64 q.ta, .int .i64 q.tb, .int .i64 q.la, .int .i64 q.lb, .bool q.hop, .bool q.fin] 137)
 have hK2 := hK.alloc (.cells #[.string (str q.name), .int .i64 q.ka, .int .i64 q.kb, .int .i64 q.ta, .int .i64 q.tb, .int .i64 q.la, .int .i64 q.lb, .bool q.hop, .bool q.fin] 137)
 obtain ⟨w2, hw2⟩ : ∃ w2, w1.alloc (.cells #[.string (str q.name), .int .i64 q.ka, .int .i64 q.kb, .int .i64 q.ta, .int .i64 q.tb, .int .i64 q.la, .int .i64 q.lb, .bool q.hop, .bool q.fin] 137) = w2 := ⟨_, rfl⟩
 rw [hw2] at b2 bx2 br2 hK2
 have HW := Lib.hid hw2
 rw [hw2]
 clear hw2 bx br hK k1
 ·refine wp_region_sh ((0, false) :: (1, false) :: (2, false) :: (3, false) :: (4, false) :: (5, false) :: (7, false) :: (8, false) :: (6, true) :: (9, false) :: (10, false) :: (11, false) :: (12, false) :: (13, false) :: (14, false) :: (15, false) :: (17, false) :: (18, false) :: (16, true) :: (19, false) :: (20, false) :: (21, false) :: []) (fun w' => Keep NoB w2 w') (by kernel_rfl) (by kernel_rfl) (by rfl) (by kernel_rfl) (stable_keep w2) (Keep.refl NoB w2).drew ?_
  refine shM_step rfl rfl rfl (by rfl) (by rfl) ?_
  apply Exists.intro
  refine ⟨fun n K hK => ?_, ?_, ?_⟩
  ·go_big_quiet_op
   exact hK _ rfl
  ·kernel_rfl
  refine shM_step rfl rfl rfl (by rfl) (by rfl) ?_
  apply Exists.intro
  refine ⟨fun n K hK => ?_, ?_, ?_⟩
  ·go_big_quiet_op
   exact hK _ rfl
  ·kernel_rfl
  refine shM_step rfl rfl rfl (by rfl) (by rfl) ?_
  apply Exists.intro
  refine ⟨fun n K hK => ?_, ?_, ?_⟩
  ·go_big_quiet_op
   exact hK _ rfl
  ·kernel_rfl
  refine shM_step rfl rfl rfl (by rfl) (by rfl) ?_
  apply Exists.intro
  refine ⟨fun n K hK => ?_, ?_, ?_⟩
  ·go_big_quiet_op
   exact hK _ rfl
  ·kernel_rfl
  refine shM_step rfl rfl rfl (by rfl) (by rfl) ?_
  apply Exists.intro
  refine ⟨fun n K hK => ?_, ?_, ?_⟩
  ·go_big_quiet_op
   exact hK _ rfl
  ·kernel_rfl
  refine shM_step rfl rfl rfl (by rfl) (by rfl) ?_
  apply Exists.intro
  refine ⟨fun n K hK => ?_, ?_, ?_⟩
  ·have q1 : ∀ m : KW n.w, m.w.cell? ⟨w1.heap.size, 1, none⟩ = some (.int .i64 q.ka) := fun m => (b2.keep (keepN n.has m.keep) id).cell 1
   go_big_quiet_op
   exact hK _ rfl
  ·kernel_rfl
  refine shM_step rfl rfl rfl (by rfl) (by rfl) ?_
  apply Exists.intro
  refine ⟨fun n K hK => ?_, ?_, ?_⟩
  ·go_big_quiet_op
   exact hK _ rfl
  ·kernel_rfl
  refine shM_step rfl rfl rfl (by rfl) (by rfl) ?_
  apply Exists.intro
  refine ⟨fun n K hK => ?_, ?_, ?_⟩
  ·have x1 : ∀ m : KW n.w, m.w.cell? ⟨w.heap.size, 1, none⟩ = some (.int .i64 a) := fun m => (bx2.keep (keepN n.has m.keep) id).cell 1
   go_big_quiet_op
   exact hK _ rfl
  ·kernel_rfl
  refine shM_gen rfl rfl (by kernel_rfl) (fun v _ => ∃ sh gu, v = opV q.ka sh gu) (fun v w w' h _ => h) (fun n => ?_) (fun v1 => ?_)
  ·unfold yieldsK
   go_simp
   exact op_gen q.ka hka _
  simp only [Act.put, List.setIfInBounds_toArray, List.set_cons_zero, List.set_cons_succ]
  refine shM_step rfl rfl rfl (by rfl) (by rfl) ?_
  apply Exists.intro
  refine ⟨fun n K hK => ?_, ?_, ?_⟩
  ·go_big_quiet_op
   apply Exists.intro
   refine ⟨fun m => ?_, ?_⟩
   ·go_at_call 217
    exact kept_of (has_gen q.ka a v1 true _ HA.out n.has.2)
   ·exact hK _ rfl
  ·kernel_rfl
  refine shM_step rfl rfl rfl (by rfl) (by rfl) ?_
  apply Exists.intro
  refine ⟨fun n K hK => ?_, ?_, ?_⟩
  ·go_big_quiet_op
   exact hK _ rfl
  ·kernel_rfl
  refine shM_step rfl rfl rfl (by rfl) (by rfl) ?_
  apply Exists.intro
  refine ⟨fun n K hK => ?_, ?_, ?_⟩
  ·go_big_quiet_op
   exact hK _ rfl
  ·kernel_rfl
  refine shM_step rfl rfl rfl (by rfl) (by rfl) ?_
  apply Exists.intro
  refine ⟨fun n K hK => ?_, ?_, ?_⟩
  ·go_big_quiet_op
   exact hK _ rfl
  ·kernel_rfl
  refine shM_step rfl rfl rfl (by rfl) (by rfl) ?_
  apply Exists.intro
  refine ⟨fun n K hK => ?_, ?_, ?_⟩
  ·go_big_quiet_op
   exact hK _ rfl
  ·kernel_rfl
  refine shM_step rfl rfl rfl (by rfl) (by rfl) ?_
  apply Exists.intro
  refine ⟨fun n K hK => ?_, ?_, ?_⟩
  ·go_big_quiet_op
   exact hK _ rfl
  ·kernel_rfl
  refine shM_step rfl rfl rfl (by rfl) (by rfl) ?_
  apply Exists.intro
  refine ⟨fun n K hK => ?_, ?_, ?_⟩
  ·have q1 : ∀ m : KW n.w, m.w.cell? ⟨w1.heap.size, 2, none⟩ = some (.int .i64 q.kb) := fun m => (b2.keep (keepN n.has.1 m.keep) id).cell 2
   go_big_quiet_op
   exact hK _ rfl
  ·kernel_rfl
  refine shM_step rfl rfl rfl (by rfl) (by rfl) ?_
  apply Exists.intro
  refine ⟨fun n K hK => ?_, ?_, ?_⟩
  ·go_big_quiet_op
   exact hK _ rfl
  ·kernel_rfl
  refine shM_step rfl rfl rfl (by rfl) (by rfl) ?_
  apply Exists.intro
  refine ⟨fun n K hK => ?_, ?_, ?_⟩
  ·have x1 : ∀ m : KW n.w, m.w.cell? ⟨w.heap.size, 2, none⟩ = some (.int .i64 b) := fun m => (bx2.keep (keepN n.has.1 m.keep) id).cell 2
   go_big_quiet_op
   exact hK _ rfl
  ·kernel_rfl
  refine shM_gen rfl rfl (by kernel_rfl) (fun v _ => ∃ sh gu, v = opV q.kb sh gu) (fun v w w' h _ => h) (fun n => ?_) (fun v2 => ?_)
  ·unfold yieldsK
   go_simp
   exact op_gen q.kb hkb _
  simp only [Act.put, List.setIfInBounds_toArray, List.set_cons_zero, List.set_cons_succ]
  refine shM_step rfl rfl rfl (by rfl) (by rfl) ?_
  apply Exists.intro
  refine ⟨fun n K hK => ?_, ?_, ?_⟩
  ·go_big_quiet_op
   apply Exists.intro
   refine ⟨fun m => ?_, ?_⟩
   ·go_at_call 217
    exact kept_of (has_gen q.kb b v2 true _ HB.out n.has.2)
   ·exact hK _ rfl
  ·kernel_rfl
  refine shM_step rfl rfl rfl (by rfl) (by rfl) ?_
  apply Exists.intro
  refine ⟨fun n K hK => ?_, ?_, ?_⟩
  ·go_big_quiet_op
   exact hK _ rfl
  ·kernel_rfl
  refine shM_step rfl rfl rfl (by rfl) (by rfl) ?_
  apply Exists.intro
  refine ⟨fun n K hK => ?_, ?_, ?_⟩
  ·go_big_quiet_op
   exact hK _ rfl
  ·kernel_rfl
  refine shM_nil (fun n => ?_)
  have k3 := n.has.1.1
  generalize n.w = w3 at k3 ⊢
  have b3 := b2.keep k3 id
  have br3 := br2.keep k3 id
  have hK3 := keepN hK2 k3
  have f0 := fun i => br3.frozen i
  obtain ⟨c0, c1, c2, c3, c4, c5, c6, c7, c8⟩ := blk9 br3
  obtain ⟨d0, d1, d2, d3, d4, d5, d6, d7, d8⟩ := blk9 b3
  have hz3 := br3.lt
  clear k3 b2 br2 hK2 bx2
  go_wp2
  exact bodyPost_ret (v := .tuple #[rowV q, .bool true]) (by simp [results, Tryz.results166, go_sem, c0, c1, c2, c3, c4, c5, c6, c7, c8]) rfl ⟨rfl, keep9 hK3 (Nat.le_succ _) _ _ _ _ _ _ _ _ _⟩

theorem rowFor_any (op a b : Int) (r : Row) (w : World) (hr : Hid (rowR op a b = r)) : Calls Tryz.prog 166 #[instV op a b] w (ForR r (okI op a b) w) := by
 obtain ⟨h1, h2, h3, h4⟩ := kinds_ok op
 have hr := hr.out
 subst hr
 cases ho : isOp op
 ·have hok : okI op a b = false := by unfold okI; rw [ho]; rfl
  rw [rowR_no hok, hok]
  exact rowFor_a op a b _ w rfl ho
 ·cases ha : inK (rowAt op).ka a
  ·have hok : okI op a b = false := by unfold okI; rw [ho, ha]; rfl
   rw [rowR_no hok, hok]
   exact rowFor_b op a b _ w rfl ho ha ⟨h1, h2⟩
  ·cases hb : inK (rowAt op).kb b
   ·have hok : okI op a b = false := by unfold okI; rw [ho, ha, hb]; rfl
    rw [rowR_no hok, hok]
    exact rowFor_c op a b _ w rfl ho ha hb ⟨h1, h2⟩ ⟨h3, h4⟩
   ·have hok : okI op a b = true := by unfold okI; rw [ho, ha, hb]; rfl
    rw [rowR_ok hok, hok]
    exact rowFor_d op a b _ w rfl ho ha hb ⟨h1, h2⟩ ⟨h3, h4⟩

end Go.Proofs.YtgnooffedmeenaaGreatDoor.O

namespace Go.Proofs.YtgnooffedmeenaaGreatDoor.O
open Go.RowKit

def chk (op a b : Int) : Int := if okI op a b = true then 0 else 40
def endsI (op a b : Int) : Bool := (rowR op a b).fin
def goesI (op a b : Int) : Bool := decide ((rowR op a b).ka = 10)
def goesN (op a b : Int) : Int := if goesI op a b = true then a else 0
theorem pr2 {a a' : Int} {b b' : Bool} (h1 : a = a') (h2 : b = b') : Ending.returned (.tuple #[.int .i64 a, .bool b]) = .returned (.tuple #[.int .i64 a', .bool b']) := by rw [h1, h2]

set_option maxHeartbeats 1000000 in
theorem check_any (op a b : Int) (w : World) :
  Calls Tryz.prog 165 #[instV op a b] w fun e w' => e = .returned (.int .i64 (chk op a b)) ∧ Keep NoB w w' := by
 have hK := (Keep.refl NoB w).alloc (.cells #[.int .i64 op, .int .i64 a, .int .i64 b] 55)
 obtain ⟨r, hr⟩ : ∃ r, Hid (rowR op a b = r) := ⟨_, rfl⟩
 have HR := Lib.hid (fun w => rowFor_any op a b r w hr)
 cases hok : okI op a b
 ·have HX : Hid (chk op a b = 40) := by show _ = _; unfold chk; rw [if_neg (by rw [hok]; decide)]
  rw [hok] at HR
  clear hok hr
  go_enter Tryz.func165, Tryz.ntmps165
  go_wp2_with fail
  refine (HR.out _).mono ?_
  rintro e w1 ⟨rfl, k1⟩
  go_wp2
  go_ret
  exact ⟨by rw [HX.out]; rfl, (keepN hK k1).alloc _⟩
 ·have HX : Hid (chk op a b = 0) := by show _ = _; unfold chk; rw [if_pos hok]
  rw [hok] at HR
  clear hok hr
  go_enter Tryz.func165, Tryz.ntmps165
  go_wp2_with fail
  refine (HR.out _).mono ?_
  rintro e w1 ⟨rfl, k1⟩
  go_wp2
  go_ret
  exact ⟨by rw [HX.out]; rfl, (keepN hK k1).alloc _⟩

set_option maxHeartbeats 1000000 in
theorem ends_any (op a b : Int) (w : World) :
  Calls Tryz.prog 164 #[instV op a b] w fun e w' => e = .returned (.bool (endsI op a b)) ∧ Keep NoB w w' := by
 have hK := (Keep.refl NoB w).alloc (.cells #[.int .i64 op, .int .i64 a, .int .i64 b] 55)
 obtain ⟨r, hr⟩ : ∃ r, Hid (rowR op a b = r) := ⟨_, rfl⟩
 have HR := Lib.hid (fun w => rowFor_any op a b r w hr)
 have HX : Hid (endsI op a b = r.fin) := by show _ = _; unfold endsI; rw [hr.out]
 clear hr
 go_enter Tryz.func164, Tryz.ntmps164
 go_wp2_with fail
 refine (HR.out _).mono ?_
 rintro e w1 ⟨rfl, k1⟩
 go_wp2
 go_ret
 exact ⟨by rw [HX.out]; rfl, (keepN hK k1).alloc _⟩

set_option maxHeartbeats 1000000 in
theorem goes_any (op a b : Int) (w : World) :
  Calls Tryz.prog 106 #[instV op a b] w fun e w' => e = .returned (.tuple #[.int .i64 (goesN op a b), .bool (goesI op a b)]) ∧ Keep NoB w w' := by
 have hB := Blk.new w 55 #[.int .i64 op, .int .i64 a, .int .i64 b]
 have hK := (Keep.refl NoB w).alloc (.cells #[.int .i64 op, .int .i64 a, .int .i64 b] 55)
 obtain ⟨r, hr⟩ : ∃ r, Hid (rowR op a b = r) := ⟨_, rfl⟩
 have HR := Lib.hid (fun w => rowFor_any op a b r w hr)
 by_cases hg : r.ka = 10
 ·have h1 : goesI op a b = true := decide_eq_true (by rw [hr.out]; exact hg)
  have HX : Hid (goesN op a b = a ∧ goesI op a b = true) := ⟨by unfold goesN; rw [if_pos h1], h1⟩
  have hq : (r.ka != 10) = false := by rw [bne_eq_false_iff_eq]; exact hg
  clear hg h1 hr
  go_enter Tryz.func106, Tryz.ntmps106
  go_wp2_with fail
  refine (HR.out _).mono ?_
  rintro e w1 ⟨rfl, k1⟩
  have b1 := hB.keep k1 id
  have c1 : w1.cell? ⟨w.heap.size, 1, none⟩ = some (.int .i64 a) := b1.cell 1
  have hz := b1.lt
  have c2 : ∀ o, (w1.alloc o).cell? ⟨w.heap.size, 1, none⟩ = some (.int .i64 a) := fun o => (World.cell?_alloc_lt _ _ _ hz).trans c1
  go_wp2
  go_ret2
  exact ⟨pr2 HX.out.1.symm HX.out.2.symm, (keepN hK k1).alloc _⟩
 ·have h1 : goesI op a b = false := decide_eq_false (by rw [hr.out]; exact hg)
  have HX : Hid (goesN op a b = 0 ∧ goesI op a b = false) := ⟨by unfold goesN; rw [if_neg (by rw [h1]; decide)], h1⟩
  have hq : (r.ka != 10) = true := by rw [bne_iff_ne]; exact hg
  clear hg h1 hr
  go_enter Tryz.func106, Tryz.ntmps106
  go_wp2_with fail
  refine (HR.out _).mono ?_
  rintro e w1 ⟨rfl, k1⟩
  go_wp2
  go_ret2
  exact ⟨pr2 HX.out.1.symm HX.out.2.symm, (keepN hK k1).alloc _⟩

set_option maxHeartbeats 1000000 in
theorem kinds_any (op : Int) (w : World) :
  Calls Tryz.prog 78 #[.int .i64 op] w fun e w' => e = .returned (.tuple #[.int .i64 (rowAt op).ka, .int .i64 (rowAt op).kb]) ∧ Keep NoB w w' := by
 obtain ⟨r, hr⟩ : ∃ r, Hid (rowAt op = r) := ⟨_, rfl⟩
 have HR := Lib.hid (fun w => rowOf_any op r w hr)
 rw [hr.out]
 clear hr
 go_enter Tryz.func78, Tryz.ntmps78
 go_wp2_with fail
 refine (HR.out _).mono ?_
 rintro e w1 ⟨rfl, k1⟩
 have b2 := Blk.new w1 137 (cells9 r)
 go_wp2
 go_quiet (fail)
 go_wp2
 go_ret2
 exact ⟨rfl, (k1.alloc _).drewN _⟩

set_option maxHeartbeats 1000000 in
theorem name_any (op : Int) (w : World) :
  Calls Tryz.prog 36 #[.int .i64 op] w fun e w' => e = .returned (.string (str (rowAt op).name)) ∧ Keep NoB w w' := by
 obtain ⟨r, hr⟩ : ∃ r, Hid (rowAt op = r) := ⟨_, rfl⟩
 have HR := Lib.hid (fun w => rowOf_any op r w hr)
 rw [hr.out]
 clear hr
 go_enter Tryz.func36, Tryz.ntmps36
 go_wp2_with fail
 refine (HR.out _).mono ?_
 rintro e w1 ⟨rfl, k1⟩
 go_wp2
 go_ret
 exact ⟨rfl, k1.alloc _⟩

end Go.Proofs.YtgnooffedmeenaaGreatDoor.O

namespace Go.Proofs.YtgnooffedmeenaaGreatDoor.C
open Go.RowKit O

abbrev I3 := Int × Int × Int
def iis (l : List I3) : List Value := l.flatMap fun x => [.int .i64 x.1, .int .i64 x.2.1, .int .i64 x.2.2]
theorem iis_cons (x : I3) (l : List I3) : iis (x :: l) = [.int .i64 x.1, .int .i64 x.2.1, .int .i64 x.2.2] ++ iis l := by unfold iis; rw [List.flatMap_cons]
theorem iis_length (l : List I3) : (iis l).length = l.length * 3 := by
 induction l with
 | nil => rfl
 | cons v l ih => rw [iis_cons, List.length_append, ih]; simp; omega
theorem iis_at : ∀ (l : List I3) (i : Nat) (h : i < l.length), (iis l)[i * 3]? = some (.int .i64 l[i].1) ∧ (iis l)[i * 3 + 1]? = some (.int .i64 l[i].2.1) ∧ (iis l)[i * 3 + 2]? = some (.int .i64 l[i].2.2)
 | v :: l, 0, _ => by rw [iis_cons]; exact ⟨rfl, rfl, rfl⟩
 | v :: l, i + 1, h => by
  have := iis_at l i (by simpa using h)
  rw [iis_cons, show (i + 1) * 3 = i * 3 + 3 by omega]
  exact ⟨by simpa using this.1, by simpa using this.2.1, by simpa using this.2.2⟩
theorem rdJ_at {w : World} {A : Option Addr} {l : List I3} (h : Rd w A (iis l)) (h0 : 0 < l.length) : ∃ g off, A = some ⟨g, off, none⟩ ∧
  ∀ (i : Nat) (hi : i < l.length), w.cell? ⟨g, off + i * 3, none⟩ = some (.int .i64 l[i].1) ∧ w.cell? ⟨g, off + i * 3 + 1, none⟩ = some (.int .i64 l[i].2.1) ∧ w.cell? ⟨g, off + i * 3 + 2, none⟩ = some (.int .i64 l[i].2.2) := by
 obtain ⟨g, off, e, hc⟩ := h (by rw [iis_length]; omega)
 refine ⟨g, off, e, fun i hi => ?_⟩
 obtain ⟨h1, h2, h3⟩ := iis_at l i hi
 exact ⟨hc _ _ h1, hc _ _ h2, hc _ _ h3⟩

def ok1 (x : I3) : Bool := okI x.1 x.2.1 x.2.2
def eB (x : I3) : Bool := endsI x.1 x.2.1 x.2.2
def gB (x : I3) : Bool := goesI x.1 x.2.1 x.2.2
def gN (x : I3) : Int := goesN x.1 x.2.1 x.2.2
theorem gB_ka {x : I3} (h : gB x = true) : ok1 x = true ∧ (O.rowAt x.1).ka = 10 := by
 have h := of_decide_eq_true h
 cases hk : okI x.1 x.2.1 x.2.2
 ·rw [rowR_no hk] at h; exact absurd h (by decide)
 ·rw [rowR_ok hk] at h; exact ⟨hk, h⟩
theorem ka_gB {x : I3} (h : ok1 x = true) (hk : (O.rowAt x.1).ka = 10) : gB x = true := by
 unfold gB goesI; rw [rowR_ok h, hk]; rfl
theorem gB_in {x : I3} (h : gB x = true) : 0 ≤ x.2.1 ∧ x.2.1 ≤ 511 := by
 obtain ⟨h1, h2⟩ := gB_ka h
 have h3 := (ok_op h1).2.1
 rw [h2] at h3
 exact of_decide_eq_true h3
theorem gN_yes {x : I3} (h : gB x = true) : gN x = x.2.1 := if_pos h
theorem gN_no {x : I3} (h : gB x = false) : gN x = 0 := if_neg (by unfold gB at h; rw [h]; decide)
theorem gN_in (x : I3) : 0 ≤ gN x ∧ gN x ≤ 511 := by
 cases h : gB x
 ·rw [gN_no h]; decide
 ·rw [gN_yes h]; exact gB_in h
def itemB (n : Nat) (x : I3) : Bool := ok1 x && decide (gN x < (n : Int))
def lastB (l : List I3) : Bool := match l.getLast? with | some x => eB x | none => false
def okB (l : List I3) : Bool := decide (l.length ≤ 512) && lastB l && l.all (itemB l.length)
def chkB (l : List I3) : Int := if okB l = true then 0 else 50
theorem chkB_ok {l : List I3} (h : okB l = true) : chkB l = 0 := if_pos h
theorem chkB_no {l : List I3} (h : okB l = false) : chkB l = 50 := if_neg (by rw [h]; decide)
theorem okB_parts {l : List I3} (h : okB l = true) : 1 ≤ l.length ∧ l.length ≤ 512 ∧ lastB l = true ∧ l.all (itemB l.length) = true := by
 unfold okB at h
 simp only [Bool.and_eq_true, decide_eq_true_eq] at h
 refine ⟨?_, h.1.1, h.1.2, h.2⟩
 rcases l with _ | ⟨x, l⟩
 ·exact absurd h.1.2 (by decide)
 ·simp
theorem okB_mk {l : List I3} (h1 : l.length ≤ 512) (h2 : lastB l = true) (h3 : l.all (itemB l.length) = true) : okB l = true := by
 unfold okB; rw [decide_eq_true h1, h2, h3]; rfl
theorem okB_long {l : List I3} (h : ¬ l.length ≤ 512) : okB l = false := by unfold okB; rw [decide_eq_false h]; rfl
theorem okB_last {l : List I3} (h : lastB l = false) : okB l = false := by unfold okB; rw [h]; simp
theorem okB_item {l : List I3} (h : l.all (itemB l.length) = false) : okB l = false := by unfold okB; rw [h]; simp
theorem lastB_at {l : List I3} (h : 0 < l.length) : lastB l = eB (l[l.length - 1]'(by omega)) := by
 unfold lastB
 rw [List.getLast?_eq_getElem?, List.getElem?_eq_getElem (by omega)]
theorem item_no1 {n : Nat} {x : I3} (h : ok1 x = false) : itemB n x = false := by unfold itemB; rw [h]; rfl
theorem item_no2 {n : Nat} {x : I3} (h : ¬ gN x < (n : Int)) : itemB n x = false := by unfold itemB; rw [decide_eq_false h]; simp
theorem item_yes {n : Nat} {x : I3} (h1 : ok1 x = true) (h2 : gN x < (n : Int)) : itemB n x = true := by unfold itemB; rw [h1, decide_eq_true h2]; rfl
theorem all_no {n : Nat} {l : List I3} {k : Nat} (hk : k < l.length) (h : itemB n l[k] = false) : l.all (itemB n) = false := by
 rw [List.all_eq_false]; exact ⟨_, List.getElem_mem hk, by rw [h]; decide⟩
end Go.Proofs.YtgnooffedmeenaaGreatDoor.C

namespace Go.Proofs.YtgnooffedmeenaaGreatDoor.F
open Go.RowKit W

def letB (c : UInt8) : Bool := decide ((97 ≤ c.toNat ∧ c.toNat ≤ 122) ∨ (65 ≤ c.toNat ∧ c.toNat ≤ 90))
def digB (c : UInt8) : Bool := decide (48 ≤ c.toNat ∧ c.toNat ≤ 57)
def inB (c : UInt8) : Bool := letB c || digB c
def headB : List UInt8 → Bool
 | [] => false
 | c :: _ => letB c
def okN (s : List UInt8) : Bool := decide (s.length ≤ 32) && (headB s && s.all inB)
def chkN (s : List UInt8) : Int := if okN s = true then 0 else 71
theorem okN_iff (s : List UInt8) : okN s = true ↔ s.length ≤ 32 ∧ headB s = true ∧ s.all inB = true := by unfold okN; rw [Bool.and_eq_true, Bool.and_eq_true, decide_eq_true_iff]
theorem chkN_ok {s : List UInt8} (h : okN s = true) : chkN s = 0 := if_pos h
theorem chkN_no {s : List UInt8} (h : okN s = false) : chkN s = 71 := if_neg (by rw [h]; decide)
theorem okN_long {s : List UInt8} (h : ¬ s.length ≤ 32) : okN s = false := by unfold okN; rw [decide_eq_false h]; rfl
theorem okN_head {s : List UInt8} (h : headB s = false) : okN s = false := by unfold okN; rw [h]; simp
theorem okN_in {s : List UInt8} (h : s.all inB = false) : okN s = false := by unfold okN; rw [h]; simp
theorem headB_at {s : List UInt8} (h : 0 < s.length) : headB s = letB s[0] := by
 cases s with
 | nil => simp at h
 | cons c l => rfl
theorem letB_iff (c : UInt8) : letB c = true ↔ (97 ≤ c.toNat ∧ c.toNat ≤ 122) ∨ (65 ≤ c.toNat ∧ c.toNat ≤ 90) := by unfold letB; rw [decide_eq_true_iff]
theorem digB_iff (c : UInt8) : digB c = true ↔ 48 ≤ c.toNat ∧ c.toNat ≤ 57 := by unfold digB; rw [decide_eq_true_iff]

structure Fu where
 nm : List UInt8
 ar : List Int
 rs : List Int
 lc : List Int
 bd : List C.I3
def okF (f : Fu) : Bool := okN f.nm && (S.okG f.ar f.rs && (f.lc.all knownB && (C.okB f.bd && decide (f.ar.length + f.rs.length + f.lc.length ≤ 64))))
def chkF (f : Fu) : Int := if okF f = true then 0 else 70
theorem okF_iff (f : Fu) : okF f = true ↔ okN f.nm = true ∧ S.okG f.ar f.rs = true ∧ f.lc.all knownB = true ∧ C.okB f.bd = true ∧ f.ar.length + f.rs.length + f.lc.length ≤ 64 := by
 unfold okF; rw [Bool.and_eq_true, Bool.and_eq_true, Bool.and_eq_true, Bool.and_eq_true, decide_eq_true_iff]
theorem chkF_ok {f : Fu} (h : okF f = true) : chkF f = 0 := if_pos h
theorem chkF_no {f : Fu} (h : okF f = false) : chkF f = 70 := if_neg (by rw [h]; decide)
theorem okF_not {f : Fu} (h : ¬ (okN f.nm = true ∧ S.okG f.ar f.rs = true ∧ f.lc.all knownB = true ∧ C.okB f.bd = true ∧ f.ar.length + f.rs.length + f.lc.length ≤ 64)) : okF f = false := by
 cases ho : okF f
 ·rfl
 ·exact absurd ((okF_iff f).1 ho) h
theorem okG_one (l : List Int) : S.okG l [] = true ↔ l.length ≤ 64 ∧ l.all knownB = true := by rw [S.okG_iff]; simp

def sameF (f g : Fu) : Bool := decide (f.nm = g.nm ∧ (f.ar = g.ar ∧ f.rs = g.rs) ∧ f.lc = g.lc ∧ f.bd = g.bd)
theorem sameF_iff (f g : Fu) : sameF f g = true ↔ f = g := by
 unfold sameF
 rw [decide_eq_true_iff]
 constructor
 ·rintro ⟨h1, ⟨h2, h3⟩, h4, h5⟩
  cases f; cases g
  simp only at h1 h2 h3 h4 h5
  subst h1 h2 h3 h4 h5; rfl
 ·rintro rfl; exact ⟨rfl, ⟨rfl, rfl⟩, rfl, rfl⟩

end Go.Proofs.YtgnooffedmeenaaGreatDoor.F

namespace Go.Proofs.YtgnooffedmeenaaGreatDoor.O

theorem in_bounds {k n : Int} (h : inK k n = true) : (-9223372036854775808 ≤ n ∧ n ≤ 9223372036854775807) ∧ (k ≠ 1 → 0 ≤ n ∧ n ≤ 511) ∧ (k = 0 → n = 0) := by
 have h := of_decide_eq_true h
 unfold lo hi at h
 repeat' split at h
 all_goals omega

end Go.Proofs.YtgnooffedmeenaaGreatDoor.O

namespace Go.Proofs.YtgnooffedmeenaaGreatDoor.O

end Go.Proofs.YtgnooffedmeenaaGreatDoor.O

namespace Go.Proofs.YtgnooffedmeenaaGreatDoor.C
open Go.RowKit O

end Go.Proofs.YtgnooffedmeenaaGreatDoor.C

namespace Go.Proofs.YtgnooffedmeenaaGreatDoor.F
open Go.RowKit W

def nilF : Fu := ⟨[], [], [], [], []⟩
end Go.Proofs.YtgnooffedmeenaaGreatDoor.F

namespace Go.Proofs.YtgnooffedmeenaaGreatDoor.I
open Go.RowKit W

structure Im where
 sh : List (List Int)
 fn : List F.Fu
def nilI : Im := ⟨[], []⟩
def names (p : Im) : List (List UInt8) := p.fn.map fun f => f.nm
def okI (p : Im) : Bool := decide (p.sh.length ≤ 64 ∧ (1 ≤ p.fn.length ∧ p.fn.length ≤ 64) ∧ (names p).Nodup) && (p.sh.all S.okS && p.fn.all F.okF)
def chkI (p : Im) : Int := if okI p = true then 0 else 80
theorem okI_iff (p : Im) : okI p = true ↔ (p.sh.length ≤ 64 ∧ (1 ≤ p.fn.length ∧ p.fn.length ≤ 64) ∧ (names p).Nodup) ∧ p.sh.all S.okS = true ∧ p.fn.all F.okF = true := by
 unfold okI; rw [Bool.and_eq_true, Bool.and_eq_true, decide_eq_true_iff]
theorem chkI_ok {p : Im} (h : okI p = true) : chkI p = 0 := if_pos h
theorem chkI_no {p : Im} (h : okI p = false) : chkI p = 80 := if_neg (by rw [h]; decide)

def adS (s : Nat × Nat) (x : UInt8) : Nat × Nat := (s.1 + x.toNat, s.2 + (s.1 + x.toNat))
def ad (l : List UInt8) : Nat × Nat := l.foldl adS (1, 0)
def four (n : Nat) : List UInt8 := [UInt8.ofNat (n / 16777216), UInt8.ofNat (n / 65536 % 256), UInt8.ofNat (n / 256 % 256), UInt8.ofNat (n % 256)]
section
variable {α : Type}
end

def findI (l : List F.Fu) (s : List UInt8) : Option Nat := l.findIdx? fun f => decide (f.nm = s)
instance fuEq : DecidableEq F.Fu := fun a b => decidable_of_iff (F.sameF a b = true) (F.sameF_iff a b)
end Go.Proofs.YtgnooffedmeenaaGreatDoor.I

namespace Go.Proofs.YtgnooffedmeenaaGreatDoor.O
open Go.RowKit

end Go.Proofs.YtgnooffedmeenaaGreatDoor.O

namespace Go.Proofs.YtgnooffedmeenaaGreatDoor.W
open Go.RowKit

def chk (t n : Int) : Int := if okB t n = true then 0 else 21
set_option maxHeartbeats 400000 in
theorem known_any (t : Int) (w : World) :
  Calls Tryz.prog 161 #[.int .i64 t] w fun e w' => e = .returned (.bool (knownB t)) ∧ w = w' := by
 by_cases h1 : 1 ≤ t
 ·by_cases h2 : t < 5
  ·go_enter Tryz.func161, Tryz.ntmps161
   go_wp2
   go_ret
   exact ⟨ret_bool (by simp [knownB]; omega), rfl⟩
  ·go_enter Tryz.func161, Tryz.ntmps161
   go_wp2
   go_ret
   exact ⟨ret_bool (by simp [knownB]; omega), rfl⟩
 ·go_enter Tryz.func161, Tryz.ntmps161
  go_wp2
  go_ret
  exact ⟨ret_bool (by simp [knownB]; omega), rfl⟩

/-! ### Zero, Nil -/

end Go.Proofs.YtgnooffedmeenaaGreatDoor.W

namespace Go.Proofs.YtgnooffedmeenaaGreatDoor.W
open Go.RowKit

/-! ### great -/

end Go.Proofs.YtgnooffedmeenaaGreatDoor.W

namespace Go.Proofs.YtgnooffedmeenaaGreatDoor.W
open Go.RowKit

set_option maxRecDepth 100000 in
set_option maxHeartbeats 2000000 in
theorem ints_any (A B : Option Addr) (la lb : List Int) (n m c d : Nat) (w : World) (ha : Rd w A (ivs la)) (hb : Rd w B (ivs lb)) (hn : Hid (la.length = n)) (hm : Hid (lb.length = m))
  (h1 : n ≤ 9223372036854775807) (h2 : m ≤ 9223372036854775807) (R : Bool) (hR : Hid (R = decide (la = lb))) :
  Calls Tryz.prog 24 #[.slice A n c, .slice B m d] w fun e w' => e = .returned (.bool R) ∧ Keep NoB w w' := by
 by_cases hnm : n = m
 ·subst hnm
  go_enter Tryz.func24, Tryz.ntmps24
  go_wp2
  go_loopw [5] (fun i wr => ∃ k : Nat, k ≤ n ∧ i = .int .i64 k ∧ Hid (la.take k = lb.take k) ∧ Keep NoB w wr) (fun i _ => n - (intOf i).toNat)
  case atStart => exact ⟨0, Nat.zero_le _, rfl, rfl, Keep.refl _ _⟩
  case round =>
   obtain ⟨k, hk, rfl, ht, hK⟩ := hrel
   by_cases hlt : k < n
   ·have hka : k < la.length := by rw [hn.out]; exact hlt
    have hkb : k < lb.length := by rw [hm.out]; exact hlt
    obtain ⟨ga, oa, rfl, hca⟩ := rdI_at ha (by omega)
    obtain ⟨gb, ob, rfl, hcb⟩ := rdI_at hb (by omega)
    have ca := hK.cell (hca k hka) id
    have cb := hK.cell (hcb k hkb) id
    have HT := Lib.hid (show la.take (k + 1) = la.take k ++ [la[k]] from List.take_succ_eq_append_getElem hka)
    have HU := Lib.hid (show lb.take (k + 1) = lb.take k ++ [lb[k]] from List.take_succ_eq_append_getElem hkb)
    clear hca hcb
    by_cases he : la[k] = lb[k]
    ·have HV : Hid (la.take (k + 1) = lb.take (k + 1)) := by show _ = _; rw [HT.out, HU.out, ht.out, he]
     rw [he] at ca
     clear he HT HU ha hb
     generalize lb[k] = y at ca cb
     go_wp2
     go_quiet (fail)
     go_wp2
     go_roundw
     case rel => exact ⟨k + 1, by omega, by go_num, HV, hK.drewN _⟩
     case measure => simp [intOf]; omega
    ·have hf : R = false := by
      rw [hR.out, decide_eq_false_iff_not]
      intro e
      exact he (by simp [e])
     subst hf
     clear HT HU ha hb
     generalize la[k] = x at ca he
     generalize lb[k] = y at cb he
     have hne : (x != y) = true := by rw [bne_iff_ne]; exact he
     clear he
     go_wp2
     go_quiet (fail)
     go_wp2
     go_ret
     exact ⟨rfl, hK.drewN _⟩
   ·have hf : R = true := by
     rw [hR.out, decide_eq_true_iff]
     have e1 := ht.out
     rwa [List.take_of_length_le (by rw [hn.out]; omega), List.take_of_length_le (by rw [hm.out]; omega)] at e1
    subst hf
    go_wp2
    go_ret
    exact ⟨rfl, hK⟩
 ·have hf : R = false := by
   rw [hR.out, decide_eq_false_iff_not]
   intro e
   exact hnm (by rw [← hn.out, ← hm.out, e])
  subst hf
  have hne : ((n : Int) != (m : Int)) = true := by rw [bne_iff_ne]; omega
  clear hnm
  go_enter Tryz.func24, Tryz.ntmps24
  go_wp2
  go_ret
  exact ⟨rfl, Keep.refl _ _⟩

end Go.Proofs.YtgnooffedmeenaaGreatDoor.W

namespace Go.Proofs.YtgnooffedmeenaaGreatDoor.W
open Go.RowKit

theorem rd_new (w : World) (E : TypeId) (cs : Array Value) : Rd (w.alloc (.cells cs E)) (some ⟨w.heap.size, 0, none⟩) cs.toList := fun _ =>
 ⟨_, _, rfl, fun j u hu => by rw [Nat.zero_add, (Blk.new w E cs).cell j]; simpa using hu⟩

theorem own_after {w W W' : World} {E size n : Nat} {v v' : Value} {xs : List Value} (ho : ∀ g, v.ownBlock = some g → Fresh w g) (hK : Keep NoB w W) (hg : W.grownBy W' v.ownBlock)
  (hv : v'.ownBlock = v.ownBlock ∨ v'.ownBlock = some W.heap.size) (hrow : W'.ownsRow 0 E size v' n xs) : Own W' E size (Fresh w) v' n xs ∧ Keep NoB w W' := by
 refine ⟨⟨hrow, fun g e => ?_⟩, hK.grown hg (fun g e h => by have := ho g e; unfold Fresh at this; omega)⟩
 rcases hv with h | h
 ·exact ho g (h ▸ e)
 ·rw [h] at e; cases e; exact hK.size

theorem rd_made {w : World} {E : TypeId} {cs : Array Value} {b : Nat} {xs : List Value} (hb : b = w.heap.size) (hx : xs = cs.toList) : Rd (w.alloc (.cells cs E)) (some ⟨b, 0, none⟩) xs := by
 subst hb hx; exact rd_new w E cs

def zs (l : List Int) : List (Int × Int) := l.map fun t => (t, 0)

def ts (x : List (Int × Int)) : List Int := x.map (·.1)

end Go.Proofs.YtgnooffedmeenaaGreatDoor.W

namespace Go.Proofs.YtgnooffedmeenaaGreatDoor.W
open Go.RowKit

end Go.Proofs.YtgnooffedmeenaaGreatDoor.W

namespace Go.Proofs.YtgnooffedmeenaaGreatDoor.W
open Go.RowKit

theorem gLet : Tryz.prog.globalNamed "backstay/value.letters" = some 1 := by kernel_rfl
theorem gPow : Tryz.prog.globalNamed "internal/strconv.uint64pow10" = some 4 := by kernel_rfl
theorem gSyn : Tryz.prog.globalNamed "strconv.ErrSyntax" = some 9 := by kernel_rfl
theorem gRng : Tryz.prog.globalNamed "strconv.ErrRange" = some 10 := by kernel_rfl

theorem var_keep {n : String} {g : Nat} {cs : Array Value} {w w' : World} (hg : Tryz.prog.globalNamed n = some g) (h : w.var? Tryz.prog n = some cs) (hk : Keep NoB w w') : w'.var? Tryz.prog n = some cs :=
 Go.Joins.var_stays hg h hk.toBelow (Nat.le_refl _)

def letV : Array Value := #[.int .i32 0, .int .i32 73, .int .i32 82, .int .i32 70, .int .i32 80]
def LetAt (w : World) : Prop := w.var? Tryz.prog "backstay/value.letters" = some letV
theorem LetAt.keep {w w' : World} (h : LetAt w) (hk : Keep NoB w w') : LetAt w' := var_keep gLet h hk
theorem LetAt.cell {w : World} (h : LetAt w) (i : Nat) : w.cell? ⟨1, i, none⟩ = letV[i]? := World.var?_cell gLet h i

structure Laid (w : World) : Prop where
 pow : Lib.TabIs Tryz.prog w "internal/strconv.uint64pow10" .u64 Lib.pow10Tab
 syn : ∃ tp p, w.var? Tryz.prog "strconv.ErrSyntax" = some #[.iface tp p]
 rng : ∃ tp p, w.var? Tryz.prog "strconv.ErrRange" = some #[.iface tp p]
theorem Laid.keep {w w' : World} (h : Laid w) (hk : Keep NoB w w') : Laid w' :=
 ⟨var_keep gPow h.pow hk, h.syn.imp fun _ ⟨p, hp⟩ => ⟨p, var_keep gSyn hp hk⟩, h.rng.imp fun _ ⟨p, hp⟩ => ⟨p, var_keep gRng hp hk⟩⟩
set_option maxRecDepth 100000 in
set_option maxHeartbeats 1000000 in
theorem letter_any (t : Int) (w : World) (h : LetAt w) :
  Calls Tryz.prog 271 #[.int .i64 t] w fun e w' => e = .returned (.string (str (letC t))) ∧ w = w' := by
 cases hk : knownB t
 ·have HL := Lib.hid (letC_none hk)
  go_enter Tryz.func271, Tryz.ntmps271
  go_wp2_with (go_at_call 161; refine (known_any _ _).mono ?_; rintro e w' ⟨rfl, rfl⟩)
  go_ret
  exact ⟨by rw [HL.out]; rfl, rfl⟩
 ·rcases known_cases hk with rfl | rfl | rfl | rfl
  ·have c : w.cell? ⟨1, 1, none⟩ = some (.int .i32 73) := h.cell 1
   go_enter Tryz.func271, Tryz.ntmps271
   go_wp2_with (go_at_call 161; refine (known_any _ _).mono ?_; rintro e w' ⟨rfl, rfl⟩)
   go_ret
   exact ⟨rfl, rfl⟩
  ·have c : w.cell? ⟨1, 2, none⟩ = some (.int .i32 82) := h.cell 2
   go_enter Tryz.func271, Tryz.ntmps271
   go_wp2_with (go_at_call 161; refine (known_any _ _).mono ?_; rintro e w' ⟨rfl, rfl⟩)
   go_ret
   exact ⟨rfl, rfl⟩
  ·have c : w.cell? ⟨1, 3, none⟩ = some (.int .i32 70) := h.cell 3
   go_enter Tryz.func271, Tryz.ntmps271
   go_wp2_with (go_at_call 161; refine (known_any _ _).mono ?_; rintro e w' ⟨rfl, rfl⟩)
   go_ret
   exact ⟨rfl, rfl⟩
  ·have c : w.cell? ⟨1, 4, none⟩ = some (.int .i32 80) := h.cell 4
   go_enter Tryz.func271, Tryz.ntmps271
   go_wp2_with (go_at_call 161; refine (known_any _ _).mono ?_; rintro e w' ⟨rfl, rfl⟩)
   go_ret
   exact ⟨rfl, rfl⟩

end Go.Proofs.YtgnooffedmeenaaGreatDoor.W

namespace Go.Proofs.YtgnooffedmeenaaGreatDoor.W
open Go.RowKit

theorem format_any (n : Int) (w : World) (h0 : -9223372036854775808 ≤ n) (h1 : n ≤ 9223372036854775807) (h : Laid w) :
  Calls Tryz.prog 305 #[.int .i64 n, .int .i64 10] w fun e w' => ∃ d, e = .returned (.string d) ∧ d.size ≤ 21 ∧ Hid (d = str (Lib.itoa n)) ∧ Keep NoB w w' := by
 refine (Tryz.strconv_FormatInt_10 n h0 h1 w h.pow).mono ?_
 rintro e w' ⟨rfl, k, os, rfl⟩
 exact ⟨_, rfl, by have := Lib.itoa_length_le n h0 h1; rw [size_of (s := Lib.itoa n) (by simp)]; exact this, rfl, Keep.of_below (Go.Lib.below_grow _ w (Nat.le_refl _) k os)⟩

end Go.Proofs.YtgnooffedmeenaaGreatDoor.W

namespace Go.Proofs.YtgnooffedmeenaaGreatDoor.A
open Go.ChangeShapes Go.WideShapes Go.ChangeAt Go.RowKit

def strD (l : List (List UInt8)) : DataW Unit := .agg (l.map fun s => .lit (.string s))

theorem strs_of_head {P : Program} {W : World} {name : String} {l : List (List UInt8)} {rest : List (String × DataW Unit)} {g : Nat} {t e : TypeId} {n : Nat}
  (hg : P.globalNamed name = some g) (hty : (P.globals[g]?).map (·.type) = some t) (ht : P.underlying t = some (.array n e)) (he : P.underlying e = some .string) (hce : P.cellsOf e = 1) (hct : P.cellsOf t = n)
  (h : laidMet P ((name, strD l) :: rest) W) : W.var? P name = some (svs l).toArray := by
 obtain ⟨ps, ⟨g', t', cs, fuel, p, q, hg', ht', hvar, hd, _, _⟩, _⟩ := h
 obtain rfl := Option.some.inj (hg.symm.trans hg')
 obtain rfl := Option.some.inj (hty.symm.trans ht')
 obtain ⟨xs, m, _, ex, hlen, hl, hel⟩ := DataW.trod_array ht hd
 rw [hct] at hlen
 rw [hce] at hel
 have e3 : l.map (fun s => (DataW.lit (.string s) : DataW Unit)) = xs.map (·.1) := DataW.agg.inj (Prod.mk.inj ex).1
 have hll : l.length = n := by have := congrArg List.length e3; simpa [hl] using this
 have key : cs.toList = svs l := by
  refine List.ext_getElem (by simp [hlen, hll]) fun i h1 h2 => ?_
  have hin : i < n := by rw [← hlen]; exact h1
  have k := hel i hin
  have hix : i < xs.length := by rw [hl]; exact hin
  rw [List.getElem?_eq_getElem hix, Nat.mul_one, List.drop_eq_getElem_cons h1] at k
  obtain ⟨z, a0, b0, _⟩ := DataW.trod_string he k
  have a1 : cs.toList[i] = .string z := by simpa using a0
  have hil : i < l.length := by rw [hll]; exact hin
  have b1 : (DataW.lit (.string l[i]) : DataW Unit) = (xs[i]).1 := by
   have := congrArg (fun y => y[i]?) e3
   simpa [hil, hix] using this
  rw [b0] at b1
  simp only [DataW.lit.injEq, Lit.string.injEq] at b1
  rw [a1, List.getElem_map, b1]
 rw [hvar]
 have : cs = (svs l).toArray := by rw [← key]
 rw [this]

theorem strs_cell {P : Program} {W : World} {name : String} {l : List (List UInt8)} {g : Nat} (hg : P.globalNamed name = some g) (h : W.var? P name = some (svs l).toArray) (i : Nat) (hi : i < l.length) :
  W.cell? ⟨g, i, none⟩ = some (.string (str l[i])) := by
 have := World.var?_cell hg h i
 simpa [hi] using this

end Go.Proofs.YtgnooffedmeenaaGreatDoor.A

namespace Go.Proofs.YtgnooffedmeenaaGreatDoor.A
open Go.RowKit

theorem gBin : Tryz.prog.globalNamed "backstay/alu.binNames" = some 5 := by kernel_rfl
theorem gUn : Tryz.prog.globalNamed "backstay/alu.unNames" = some 6 := by kernel_rfl
theorem var_keepA {n : String} {g : Nat} {cs : Array Value} {w w' : World} (hg : Tryz.prog.globalNamed n = some g) (h : w.var? Tryz.prog n = some cs) (hk : Keep NoB w w') : w'.var? Tryz.prog n = some cs :=
 Go.Joins.var_stays hg h hk.toBelow (Nat.le_refl _)

structure NamesAt (w : World) : Prop where
 bin : w.var? Tryz.prog "backstay/alu.binNames" = some (svs binNs).toArray
 un : w.var? Tryz.prog "backstay/alu.unNames" = some (svs unNs).toArray
theorem NamesAt.keep (w w' : World) (h : NamesAt w) (hk : Keep NoB w w') : NamesAt w' := ⟨var_keepA gBin h.bin hk, var_keepA gUn h.un hk⟩

def NmS (f : FuncId) (l : List (List UInt8)) : Prop := ∀ (n : Int) (W : World), NamesAt W → -9223372036854775808 ≤ n ∧ n ≤ 9223372036854775807 →
 Calls Tryz.prog f #[.int .i64 n] W fun e w' => e = .returned (.string (str (nameAt l n))) ∧ W = w'
set_option maxHeartbeats 4000000 in
theorem binName_any : NmS 273 binNs := fun n w h _ => by
 by_cases hi : 0 ≤ n ∧ n < 14
 ·obtain ⟨k, rfl⟩ := Int.eq_ofNat_of_zero_le hi.1
  have hkl : k < binNs.length := by have : binNs.length = 14 := rfl; omega
  have hck := strs_cell gBin h.bin k hkl
  have HD : Hid (nameAt binNs (k : Int) = binNs[k]) := Lib.hid (by unfold nameAt; rw [if_pos hi.1, Int.toNat_natCast, getD_at hkl])
  generalize binNs[k] = x at hck HD
  clear h hkl
  go_enter Tryz.func273, Tryz.ntmps273
  go_wp2
  go_ret
  exact ⟨by rw [HD.out]; rfl, rfl⟩
 ·have HD : Hid (nameAt binNs n = []) := Lib.hid (by
   unfold nameAt
   split
   ·have : binNs.length ≤ n.toNat := by have : binNs.length = 14 := rfl; omega
    exact getD_past this
   ·rfl)
  by_cases h0 : n < 0
  ·go_enter Tryz.func273, Tryz.ntmps273
   go_wp2
   go_ret
   exact ⟨by rw [HD.out]; rfl, rfl⟩
  ·have h2 : (14 : Int) ≤ n := by omega
   have h0' : decide (n < 0) = false := by simpa using h0
   go_enter Tryz.func273, Tryz.ntmps273
   go_wp2
   go_ret
   exact ⟨by rw [HD.out]; rfl, rfl⟩

set_option maxHeartbeats 4000000 in
theorem unName_any : NmS 275 unNs := fun n w h _ => by
 by_cases hi : 0 ≤ n ∧ n < 9
 ·obtain ⟨k, rfl⟩ := Int.eq_ofNat_of_zero_le hi.1
  have hkl : k < unNs.length := by have : unNs.length = 9 := rfl; omega
  have hck := strs_cell gUn h.un k hkl
  have HD : Hid (nameAt unNs (k : Int) = unNs[k]) := Lib.hid (by unfold nameAt; rw [if_pos hi.1, Int.toNat_natCast, getD_at hkl])
  generalize unNs[k] = x at hck HD
  clear h hkl
  go_enter Tryz.func275, Tryz.ntmps275
  go_wp2
  go_ret
  exact ⟨by rw [HD.out]; rfl, rfl⟩
 ·have HD : Hid (nameAt unNs n = []) := Lib.hid (by
   unfold nameAt
   split
   ·have : unNs.length ≤ n.toNat := by have : unNs.length = 9 := rfl; omega
    exact getD_past this
   ·rfl)
  by_cases h0 : n < 0
  ·go_enter Tryz.func275, Tryz.ntmps275
   go_wp2
   go_ret
   exact ⟨by rw [HD.out]; rfl, rfl⟩
  ·have h2 : (9 : Int) ≤ n := by omega
   have h0' : decide (n < 0) = false := by simpa using h0
   go_enter Tryz.func275, Tryz.ntmps275
   go_wp2
   go_ret
   exact ⟨by rw [HD.out]; rfl, rfl⟩

end Go.Proofs.YtgnooffedmeenaaGreatDoor.A

namespace Go.Proofs.YtgnooffedmeenaaGreatDoor.O
open Go.RowKit

structure LaidO (w : World) : Prop where
 lets : W.LetAt w
 names : A.NamesAt w
 lib : W.Laid w
theorem LaidO.keep {w w' : World} (h : LaidO w) (hk : Keep NoB w w') : LaidO w' := ⟨h.lets.keep hk, A.NamesAt.keep _ _ h.names hk, h.lib.keep hk⟩
def I64 (n : Int) : Prop := -9223372036854775808 ≤ n ∧ n ≤ 9223372036854775807

theorem word_dig {k n : Int} (h : digK k = true) : word k n = Lib.itoa n := by
 have h := of_decide_eq_true h
 unfold word
 rw [if_neg (by omega), if_neg (by omega), if_neg (by omega)]
theorem nameAt_len {l : List (List UInt8)} {m : Nat} (h : l.all (fun s => decide (s.length ≤ m)) = true) (n : Int) : (A.nameAt l n).length ≤ m := by
 unfold A.nameAt
 split
 ·rcases Nat.lt_or_ge n.toNat l.length with hlt | hge
  ·rw [A.getD_at hlt]
   exact of_decide_eq_true (List.all_eq_true.1 h _ (List.getElem_mem hlt))
  ·rw [A.getD_past hge]; exact Nat.zero_le _
 ·exact Nat.zero_le _
theorem word_len (k n : Int) (hn : I64 n) : (word k n).length ≤ 21 := by
 unfold word
 split
 ·unfold W.letC
  repeat' split
  all_goals simp
 ·split
  ·exact Nat.le_trans (nameAt_len (m := 6) (by decide) n) (by omega)
  ·split
   ·exact Nat.le_trans (nameAt_len (m := 6) (by decide) n) (by omega)
   ·exact Lib.itoa_length_le n hn.1 hn.2

set_option maxHeartbeats 1000000 in
theorem show_dig (k n : Int) (w : World) (hk : digK k = true) (hn : I64 n) (h : LaidO w) :
  Calls Tryz.prog 304 #[.int .i64 n] w fun e w' => ∃ d, e = .returned (.string d) ∧ Hid (d = str (word k n)) ∧ Keep NoB w w' := by
 have HW := Lib.hid (word_dig (n := n) hk)
 have HF := Lib.hid (W.format_any n w hn.1 hn.2 h.lib)
 clear h hk hn
 go_enter Tryz.func304, Tryz.ntmps304
 go_wp2_with fail
 refine HF.out.mono ?_
 rintro e w1 ⟨d, rfl, _, hd, k1⟩
 go_wp2
 go_ret
 exact ⟨d, rfl, by show _ = _; rw [hd.out, HW.out], k1⟩

set_option maxHeartbeats 1000000 in
theorem show_word (k n : Int) (b : Nat) (w : World) (hk : wordK k = true) (hn : I64 n) (h : LaidO w) (hb : w.cell? ⟨b, 0, none⟩ = some (fnV (wordF k))) :
  Calls Tryz.prog 308 #[.int .i64 n, .pointer (some ⟨b, 0, none⟩)] w fun e w' => ∃ d, e = .returned (.string d) ∧ Hid (d = str (word k n)) ∧ Keep NoB w w' := by
 have hk := of_decide_eq_true hk
 have hc : k = 8 ∨ k = 9 ∨ (k = 2 ∨ k = 3) := by omega
 clear hk
 rcases hc with rfl | rfl | hk
 ·have HF := Lib.hid (A.binName_any n w h.names hn)
  have hb' : w.cell? ⟨b, 0, none⟩ = some (fnV 273) := hb
  clear h hn hb
  go_enter Tryz.func308, Tryz.ntmps308
  go_wp2_with fail
  refine HF.out.mono ?_
  rintro e w1 ⟨rfl, rfl⟩
  go_wp2
  go_ret
  exact ⟨_, rfl, rfl, Keep.refl _ _⟩
 ·have HF := Lib.hid (A.unName_any n w h.names hn)
  have hb' : w.cell? ⟨b, 0, none⟩ = some (fnV 275) := hb
  clear h hn hb
  go_enter Tryz.func308, Tryz.ntmps308
  go_wp2_with fail
  refine HF.out.mono ?_
  rintro e w1 ⟨rfl, rfl⟩
  go_wp2
  go_ret
  exact ⟨_, rfl, rfl, Keep.refl _ _⟩
 ·have HF := Lib.hid (W.letter_any n w h.lets)
  have hb' : w.cell? ⟨b, 0, none⟩ = some (fnV 271) := by rw [hb]; unfold wordF; rw [if_neg (by omega), if_neg (by omega)]
  have HW : Hid (word k n = W.letC n) := by show _ = _; unfold word; rw [if_pos (by omega)]
  clear h hn hb hk
  go_enter Tryz.func308, Tryz.ntmps308
  go_wp2_with fail
  refine HF.out.mono ?_
  rintro e w1 ⟨rfl, rfl⟩
  go_wp2
  go_ret
  exact ⟨_, rfl, by show _ = _; rw [HW.out], Keep.refl _ _⟩

end Go.Proofs.YtgnooffedmeenaaGreatDoor.O

namespace Go.Proofs.YtgnooffedmeenaaGreatDoor.O
open Go.RowKit

end Go.Proofs.YtgnooffedmeenaaGreatDoor.O

namespace Go.Proofs.YtgnooffedmeenaaGreatDoor.O
open Go.RowKit

end Go.Proofs.YtgnooffedmeenaaGreatDoor.O

namespace Go.Proofs.YtgnooffedmeenaaGreatDoor.O
open Go.RowKit

end Go.Proofs.YtgnooffedmeenaaGreatDoor.O

namespace Go.Proofs.YtgnooffedmeenaaGreatDoor.O
open Go.RowKit

def nm (k : Nat) : ByteArray := str (rowAt (k : Int)).name
end Go.Proofs.YtgnooffedmeenaaGreatDoor.O

namespace Go.Proofs.YtgnooffedmeenaaGreatDoor
open Go.RowKit Go.Shelf

section
variable {P : Program} {n : Nat}

theorem Keep.grows {W W' : World} (h : Keep NoB W W') : W.grownBy W' none := ⟨h.os, h.tape, h.output, h.size, fun k hk _ => h.block k hk id⟩
theorem ownFrom_keeps {β : Type} {B : Nat} {I : β → World → Prop} (hI : OwnFrom B I) {s : β} {W W' : World} (h : I s W) (hk : Keep NoB W W') : I s W' := hI s W W' none h hk.grows (fun r e => by cases e)
theorem keepsFrom_keep {B : Nat} {W W' : World} (hk : Keep NoB W W') : KeepsFrom B W W' := ⟨hk.size, fun k _ _ h _ => (hk.block k (Array.getElem?_eq_some_iff.1 h).1 id).trans h⟩

theorem yieldAt_end {L m : Nat} {r : Loop} {args : Array Value} {W : World} {R : World → Prop} (hl : W.heap[L]? = some (.loop r)) (hr : r.state = .ready) (hp : r.pending = none) (hs : args.size = r.params.size)
  (h : r.assign.wpIn (Fence.wide.inRound L) m P (Exit.then (fun a₁ W₁ => W₁.heap[L]? = some (.loop r) ∧
    r.body.wpIn (Fence.wide.inRound L) m P (fun e _ W₃ => e = .normal ∧ W₃.heap[L]? = some (.loop { r with state := .busy }) ∧ R (W₃.putObj L (.loop r))) a₁ (W₁.putObj L (.loop { r with state := .busy })))
    (fun _ _ _ => False)) { tmps := (r.params.zip args).foldl (fun t (p, v) => t.setIfInBounds p v) r.tmps, defers := [] } W) :
  YieldAt Fence.wide m P L args W fun e W' => e = .returned (.bool true) ∧ R W' := by
 refine ⟨r.fn, _, r.assign, r.body, run_yield hl hs, roundIn_of_wpIn trivial (wpIn_mono h ?_)⟩
 intro e a₁ W₁ hq
 cases e with
 | normal =>
  obtain ⟨h1, h2⟩ := hq
  refine ⟨_, run_beginRound h1 hr, wpIn_mono h2 ?_⟩
  rintro e₃ a₃ W₃ ⟨rfl, h3, h4⟩
  refine ⟨_, _, run_endRound none h3, rfl, ?_⟩
  have hb : ({ r with state := .busy } : Loop) = { r with state := .busy } := rfl
  have he : ({ ({ r with state := .busy } : Loop) with state := if (none : Option Code).isNone then LoopState.ready else .done, pending := none } : Loop) = r := by
   cases r; simp_all
  rw [he]; exact h4
 | exit id => exact hq
 | goto t => exact hq
 | ret => exact hq
 | panic c => exact hq
 | outgrown => exact hq

def Brings {α : Type} (P : Program) (m k : Nat) (gf : Nat) (lb : Array Value) (encs : α → Array Value) (I : List α → World → Prop) (En : List α → α → World → Prop) (S : List α → Prop) : Prop :=
 ∀ (L : Nat) (J : List α → World → Prop), (∀ pre W W', J pre W → Keep NoB W W' → J pre W') → (∀ pre W, J pre W → I pre W) →
  (∀ pre x W, J pre W → En pre x W → YieldAt Fence.wide m P L (encs x) W fun e W' => e = .returned (.bool true) ∧ J (pre ++ [x]) W') →
  ∀ W, J [] W → CallsIn Fence.wide k P gf (#[.func (.yield L) #[] #[]] ++ lb) W fun e W' => (∃ v, e = .returned v) ∧ ∃ xs, S xs ∧ J xs W'

theorem wpIn_rangeFunc_brings {α : Type} {g : Operand} {ps : Array Tmp} {assign body : Code} {Q : Exit → Act → World → Prop} {a : Act} {w : World} {m : Nat}
  {gf : Nat} {lb : Array Value} (hg : a.eval g = .func (.func gf) #[] lb) (eg : ∀ args w, (callFunc gf args).run P w = .ok (.enter gf args) w)
  {encs : α → Array Value} {I : List α → World → Prop} {En : List α → α → World → Prop} {S : List α → Prop} (hit : Brings P m (n - 1) gf lb encs I En S) (hps : ∀ x, (encs x).size = ps.size)
  (hI : OwnFrom w.heap.size I) (h0 : I [] w) (Ax : List α → α → Act → World → Prop) (hAx : ∀ pre x a', OwnFrom w.heap.size (fun (_ : Unit) W => Ax pre x a' W))
  (hassign : ∀ (l : Nat) (pre : List α) (x : α) (W : World), I pre W → En pre x W →
   assign.wpIn (Fence.wide.inRound l) m P (Exit.then (fun a' W' => Ax pre x a' W' ∧ KeepsFrom w.heap.size W W') (fun _ _ _ => False)) { tmps := (ps.zip (encs x)).foldl (fun t (p, v) => t.setIfInBounds p v) a.tmps, defers := [] } W)
  (hbody : ∀ (l : Nat) (pre : List α) (x : α) (a' : Act) (W : World), Ax pre x a' W → body.wpIn (Fence.wide.inRound l) m P (fun e _ W' => e = .normal ∧ I (pre ++ [x]) W' ∧ KeepsFrom w.heap.size W W') a' W)
  (hdone : ∀ (D : Nat) (xs : List α) (W : World), w.heap.size ≤ D → S xs → I xs W → W.heap[D]? = some (.deferred (some [])) → Q .normal { a with defers := { target := .collected D, args := #[] } :: a.defers } W) :
  (Code.rangeFunc g ps assign body).wpIn Fence.wide n P Q a w := by
 refine wpIn_rangeFunc fun fn _ => ?_
 obtain ⟨r, hr⟩ : ∃ r : Loop, r = { state := .ready, pending := none, fn, tmps := a.tmps, params := ps, assign, body, defers := w.heap.size } := ⟨_, rfl⟩
 obtain ⟨W1, hW1⟩ : ∃ W1, (w.alloc (.deferred (some []))).alloc (.loop r) = W1 := ⟨_, rfl⟩
 have hL1 : W1.heap[w.heap.size + 1]? = some (.loop r) := by
  rw [← hW1]; have := World.alloc_heap_new (w.alloc (.deferred (some []))) (.loop r); rwa [World.size_alloc] at this
 have hD1 : W1.heap[w.heap.size]? = some (.deferred (some [])) := by
  rw [← hW1]; exact (Below.heap_alloc _ _ _ (by simp)).trans (World.alloc_heap_new w _)
 refine ⟨w.heap.size + 1, [{ target := .collected w.heap.size, args := #[] }], W1, { target := .fn (.func gf) lb, args := #[.func (.yield (w.heap.size + 1)) #[] #[]] }, W1, gf,
  #[.func (.yield (w.heap.size + 1)) #[] #[]] ++ lb, W1, ?_, ?_, fun _ _ => trivial, ?_, (fun h => by cases h), ?_⟩
 ·rw [← hW1, hr]; exact run_enterLoop_outer _ _ _ _ _
 ·simp only [resolve, hg]
  simp [go_sem]
 ·simp [invoke, go_sem, eg]
 refine (hit (w.heap.size + 1) (fun pre W => I pre W ∧ W.heap[w.heap.size + 1]? = some (.loop r) ∧ W.heap[w.heap.size]? = some (.deferred (some []))) ?_ (fun _ _ h => h.1) ?_ W1 ⟨by rw [← hW1]; exact hI.alloc _ (hI.alloc _ h0), hL1, hD1⟩).mono ?_
 ·rintro pre W W' ⟨h1, h2, h3⟩ hk
  exact ⟨ownFrom_keeps hI h1 hk, (hk.block _ (Array.getElem?_eq_some_iff.1 h2).1 id).trans h2, (hk.block _ (Array.getElem?_eq_some_iff.1 h3).1 id).trans h3⟩
 ·clear hL1 hW1 hD1
  subst hr
  rintro pre x W ⟨h1, h2, h3⟩ hen
  refine yieldAt_end h2 rfl rfl (hps x) ?_
  have ha := hassign (w.heap.size + 1) pre x W h1 hen
  refine wpIn_mono ha ?_
  intro e a₁ Wa hq
  cases e with
  | normal =>
   obtain ⟨hax, hka⟩ := hq
   have l2 := hka.same _ _ (by omega) h2 rfl
   have d2 := hka.same _ _ (Nat.le_refl _) h3 rfl
   refine ⟨l2, ?_⟩
   have lt2 := (Array.getElem?_eq_some_iff.1 l2).1
   refine wpIn_mono (hbody _ pre x a₁ _ ((hAx pre x a₁).putObj (s := ()) _ hax (by omega) l2 rfl)) ?_
   rintro e₃ a₃ W₃ ⟨rfl, h4, h5⟩
   have l3 := h5.same (w.heap.size + 1) _ (by omega) (World.putObj_heap_same lt2) rfl
   have d3 := h5.same w.heap.size _ (Nat.le_refl _) ((World.putObj_heap_other (by omega)).trans d2) rfl
   refine ⟨rfl, l3, hI.putObj _ h4 (by omega) l3 rfl, World.putObj_heap_same (Array.getElem?_eq_some_iff.1 l3).1, (World.putObj_heap_other (by omega)).trans d3⟩
  | exit id => exact hq
  | goto t => exact hq
  | ret => exact hq
  | panic c => exact hq
  | outgrown => exact hq
 ·rintro e W2 ⟨⟨v, rfl⟩, xs, hS, h1, h2, h3⟩
  have hp : r.pending = none := by rw [hr]
  exact ⟨none, _, by have := run_endLoop (P := P) h2 (by rw [hr]; simp); rw [hp] at this; exact this, hdone _ xs _ (Nat.le_refl _) hS (hI.putObj _ h1 (by omega) h2 rfl) ((World.putObj_heap_other (by omega)).trans h3)⟩
end
end Go.Proofs.YtgnooffedmeenaaGreatDoor

namespace Go.Proofs.YtgnooffedmeenaaGreatDoor.O
open Go.RowKit Go.Shelf
attribute [local go_sem] Oper.semAt_some

structure Part where
 k : Int
 n : Int
 sh : Value
 gu : Value
def Part.key (x : Part) : Int × Int := (x.k, x.n)
abbrev partE (x : Part) : Array Value := #[opV x.k x.sh x.gu, .int .i64 x.n]
def partsL (ka kb a b : Int) : List (Int × Int) := if ka = 0 then [] else if kb = 0 then [(ka, a)] else [(ka, a), (kb, b)]
def PartN (ka kb a b : Int) (pre : List Part) (x : Part) (W : World) : Prop := (∃ post, pre.map Part.key ++ x.key :: post = partsL ka kb a b) ∧ FnAt x.k x.sh x.gu W

theorem parts_0 {ka kb a b : Int} (h : ka = 0) : partsL ka kb a b = [] := by unfold partsL; rw [if_pos h]
theorem parts_1 {ka kb a b : Int} (h : ka ≠ 0) (h' : kb = 0) : partsL ka kb a b = [(ka, a)] := by unfold partsL; rw [if_neg h, if_pos h']
theorem parts_2 {ka kb a b : Int} (h : ka ≠ 0) (h' : kb ≠ 0) : partsL ka kb a b = [(ka, a), (kb, b)] := by unfold partsL; rw [if_neg h, if_neg h']

theorem run_index_nums (a b : Int) (w : World) : (Instr.index 350 (.agg #[.int .i64 a, .int .i64 b]) (.int .i64 0)).run Tryz.prog w = .ok (.int .i64 a) w ∧
  (Instr.index 350 (.agg #[.int .i64 a, .int .i64 b]) (.int .i64 1)).run Tryz.prog w = .ok (.int .i64 b) w := by
 have hs : (sizeOf 2).run Tryz.prog w = .ok 1 w := Tryz.sizeOf2 w
 unfold Instr.index
 constructor
 ·simp [run_underlying Tryz.underlying350, asIntOf, hs, part]
 ·simp [run_underlying Tryz.underlying350, asIntOf, hs, part]

set_option maxRecDepth 100000 in
set_option maxHeartbeats 4000000 in
theorem parts1_in (m : Nat) (q : Row) (op a b : Int) (Bx Br : Nat) (hka : 0 ≤ q.ka ∧ q.ka ≤ 10) (hkb : 0 ≤ q.kb ∧ q.kb ≤ 10) (I : List Part → World → Prop)
  (hbx : ∀ pre W, I pre W → Blk W Bx 55 #[.int .i64 op, .int .i64 a, .int .i64 b]) (hbr : ∀ pre W, I pre W → Blk W Br 137 (cells9 q)) :
  Brings Tryz.prog m (m + 1) 299 #[.pointer (some ⟨Bx, 0, none⟩), .pointer (some ⟨Br, 0, none⟩)] partE I (PartN q.ka q.kb a b) (fun xs => xs.map Part.key = partsL q.ka q.kb a b) := by
 intro L J hJk hJI hY W h0
 refine callsIn_of_wp Tryz.func299 rfl trivial ?_ rfl
 simp only [Tryz.ntmps299, List.size_toArray, List.length_cons, List.length_nil, Nat.reduceAdd, Nat.reduceSub, Array.replicate_succ, Array.replicate_zero, List.push_toArray, List.append_toArray, List.nil_append, List.cons_append]
 have x0 := hbx _ _ (hJI _ _ h0)
 have c1 : W.cell? ⟨Bx, 1, none⟩ = some (.int .i64 a) := x0.cell 1
 have c2 : W.cell? ⟨Bx, 2, none⟩ = some (.int .i64 b) := x0.cell 2
 clear x0
 gi_wp2
 gi_loopw [11] (fun i wr => ∃ (k : Nat) (pre : List Part), k ≤ 2 ∧ i = .int .i64 (k : Int) ∧ Hid (pre.map Part.key = [(q.ka, a), (q.kb, b)].take k ∧ (1 ≤ k → q.ka ≠ 0) ∧ (2 ≤ k → q.kb ≠ 0)) ∧ J pre wr)
  (fun i _ => 2 - (intOf i).toNat)
 case atStart => exact ⟨0, [], by omega, rfl, ⟨rfl, fun h => by omega, fun h => by omega⟩, h0⟩
 case round =>
  obtain ⟨k, pre, hk, rfl, HP, hJ⟩ := hrel
  have r0 := hbr _ _ (hJI _ _ hJ)
  have d1 : wr.cell? ⟨Br, 1, none⟩ = some (.int .i64 q.ka) := r0.cell 1
  have d2 : wr.cell? ⟨Br, 2, none⟩ = some (.int .i64 q.kb) := r0.cell 2
  clear r0 c1 c2
  have hix := fun w => run_index_nums a b w
  have hi0 := fun w => (hix w).1
  have hi1 := fun w => (hix w).2
  clear hix
  obtain rfl | rfl | rfl : k = 0 ∨ k = 1 ∨ k = 2 := by omega
  ·by_cases hz : q.ka = 0
   ·have hS : Hid (pre.map Part.key = partsL q.ka q.kb a b) := by show _ = _; rw [HP.out.1, parts_0 hz]; rfl
    have e0 : (q.ka == 0) = true := by rw [beq_iff_eq]; exact hz
    clear HP hz hka hkb
    rw [show ((0 : Nat) : Int) = 0 from rfl]
    gi_wp2
    refine ⟨trivial, ?_⟩
    gi_wp2
    refine ⟨fun _ h => (by cases h), ?_⟩
    gi_wp2
    refine bodyPost_ret (results_none rfl _ _ _) rfl ?_
    exact ⟨⟨_, rfl⟩, pre, hS.out, hJ⟩
   ·have e0 : (q.ka == 0) = false := by rw [beq_eq_false_iff_ne]; exact hz
    have HN : Hid (pre.map Part.key ++ (q.ka, a) :: (if q.kb = 0 then [] else [(q.kb, b)]) = partsL q.ka q.kb a b) := by show _ = _; rw [HP.out.1]; unfold partsL; rw [if_neg hz]; split <;> rfl
    have HQ : Hid (∀ x : Part, x.key = (q.ka, a) → (pre ++ [x]).map Part.key = [(q.ka, a), (q.kb, b)].take 1) := by intro x hx; rw [List.map_append, HP.out.1]; simp [hx]
    have hp1 := HP.out.2.1
    have HZ : Hid ((1 ≤ 1 → q.ka ≠ 0) ∧ (2 ≤ 1 → q.kb ≠ 0)) := ⟨fun _ => hz, fun h => by omega⟩
    clear HP hz hp1
    rw [show ((0 : Nat) : Int) = 0 from rfl]
    gi_wp2_with (refine ⟨trivial, ?_⟩; gi_at_call 216; refine (callsIn_wide.2 (operandOf_any q.ka hka _)).mono ?_; rintro e w1 ⟨sh, gu, rfl, hF, k1⟩; have hJ1 := hJk _ _ _ hJ k1; obtain ⟨fn, tmps, assign, body, hy, hR⟩ := hY pre ⟨q.ka, a, sh, gu⟩ w1 hJ1 ⟨⟨_, HN.out⟩, hF⟩; dsimp only [partE] at hy)
    refine hR.mono ?_
    rintro e W3 ⟨rfl, hJ3⟩
    gi_wp2
    go_roundw
    case rel => exact ⟨1, pre ++ [_], by omega, rfl, ⟨HQ.out _ rfl, HZ.out⟩, hJ3⟩
    case measure => simp [intOf]
  ·by_cases hz : q.kb = 0
   ·have hS : Hid (pre.map Part.key = partsL q.ka q.kb a b) := by show _ = _; rw [HP.out.1, parts_1 (HP.out.2.1 (by omega)) hz]; rfl
    have e0 : (q.kb == 0) = true := by rw [beq_iff_eq]; exact hz
    clear HP hz hka hkb
    rw [show ((1 : Nat) : Int) = 1 from rfl]
    gi_wp2
    refine ⟨trivial, ?_⟩
    gi_wp2
    refine ⟨fun _ h => (by cases h), ?_⟩
    gi_wp2
    refine bodyPost_ret (results_none rfl _ _ _) rfl ?_
    exact ⟨⟨_, rfl⟩, pre, hS.out, hJ⟩
   ·have e0 : (q.kb == 0) = false := by rw [beq_eq_false_iff_ne]; exact hz
    have HN : Hid (pre.map Part.key ++ (q.kb, b) :: [] = partsL q.ka q.kb a b) := by show _ = _; rw [HP.out.1, parts_2 (HP.out.2.1 (by omega)) hz]; rfl
    have HQ : Hid (∀ x : Part, x.key = (q.kb, b) → (pre ++ [x]).map Part.key = [(q.ka, a), (q.kb, b)].take 2) := by intro x hx; rw [List.map_append, HP.out.1]; simp [hx]
    have hp1 := HP.out.2.1
    have HZ : Hid ((1 ≤ 2 → q.ka ≠ 0) ∧ (2 ≤ 2 → q.kb ≠ 0)) := ⟨fun _ => hp1 (by omega), fun _ => hz⟩
    clear HP hz hp1
    rw [show ((1 : Nat) : Int) = 1 from rfl]
    gi_wp2_with (refine ⟨trivial, ?_⟩; gi_at_call 216; refine (callsIn_wide.2 (operandOf_any q.kb hkb _)).mono ?_; rintro e w1 ⟨sh, gu, rfl, hF, k1⟩; have hJ1 := hJk _ _ _ hJ k1; obtain ⟨fn, tmps, assign, body, hy, hR⟩ := hY pre ⟨q.kb, b, sh, gu⟩ w1 hJ1 ⟨⟨_, HN.out⟩, hF⟩; dsimp only [partE] at hy)
    refine hR.mono ?_
    rintro e W3 ⟨rfl, hJ3⟩
    gi_wp2
    go_roundw
    case rel => exact ⟨2, pre ++ [_], by omega, rfl, ⟨HQ.out _ rfl, HZ.out⟩, hJ3⟩
    case measure => simp [intOf]
  ·have hS : Hid (pre.map Part.key = partsL q.ka q.kb a b) := by show _ = _; rw [HP.out.1, parts_2 (HP.out.2.1 (by omega)) (HP.out.2.2 (by omega))]; rfl
   clear HP hka hkb
   rw [show ((2 : Nat) : Int) = 2 from rfl]
   gi_wp2
   go_end0
   exact ⟨⟨_, rfl⟩, pre, hS.out, hJ⟩

end Go.Proofs.YtgnooffedmeenaaGreatDoor.O
