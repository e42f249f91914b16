/-
  Part 5 of the proofs of GLoopsRow, GReachRow, GMustRow, GNamesRow: what is laid, and what the functions that the law runs answer. Conditions: each theorem names its own.
-/
import Derived.Test.YtghdibbooegocaaGreatDoorQA4
namespace Go.Proofs.YtghdibbooegocaaGreatDoor.O
open Go.RowKit

abbrev instV (op a b : Int) : Value := .agg #[.int .i64 op, .int .i64 a, .int .i64 b]
def rowR (op a b : Int) : Row := if okI op a b = true then rowAt op else row0
theorem rowR_ok {op a b : Int} (h : okI op a b = true) : rowR op a b = rowAt op := by unfold rowR; rw [if_pos h]
theorem rowR_no {op a b : Int} (h : okI op a b = false) : rowR op a b = row0 := by unfold rowR; rw [if_neg (by rw [h]; decide)]
theorem kinds_ok (op : Int) : 0 ≤ (rowAt op).ka ∧ (rowAt op).ka ≤ 10 ∧ 0 ≤ (rowAt op).kb ∧ (rowAt op).kb ≤ 10 := by
 have := rowAt_all (p := fun r => decide (0 ≤ r.ka ∧ r.ka ≤ 10 ∧ 0 ≤ r.kb ∧ r.kb ≤ 10)) (by decide) (by decide) op
 simpa using this

theorem has_gen (k n : Int) (v : Value) (t : Bool) (w : World) (ht : inK k n = t) (hv : ∃ sh gu, v = opV k sh gu) :
  Calls Tryz.prog 82 #[v, .int .i64 n] w fun e w' => e = .returned (.bool t) ∧ Keep NoB w w' := by
 subst ht; exact has_any k n v w hv
theorem op_gen (k : Int) (hk : 0 ≤ k ∧ k ≤ 10) (w : World) :
  Calls Tryz.prog 79 #[.int .i64 k] w fun e w' => ∃ u, e = .returned u ∧ (∃ sh gu, u = opV k sh gu) ∧ Keep NoB w w' :=
 (operandOf_any k hk w).mono fun _ _ ⟨sh, gu, he, _, hk⟩ => ⟨_, he, ⟨sh, gu, rfl⟩, hk⟩
abbrev cells9 (q : Row) : Array Value := #[.string (str q.name), .int .i64 q.ka, .int .i64 q.kb, .int .i64 q.ta, .int .i64 q.tb, .int .i64 q.la, .int .i64 q.lb, .bool q.hop, .bool q.fin]

def ForR (q : Row) (t : Bool) (w : World) (e : Ending) (w' : World) : Prop := e = .returned (.tuple #[rowV q, .bool t]) ∧ Keep NoB w w'

set_option maxRecDepth 100000 in
set_option maxHeartbeats 1000000 in
theorem rowFor_a (op a b : Int) (q : Row) (w : World) (HQ : Hid (rowAt op = q)) (HI : Hid (isOp op = false)) :
  Calls Tryz.prog 61 #[instV op a b] w (ForR row0 false w) := by
 go_enter Tryz.func61, Tryz.ntmps61
 go_wp2_with fail
 refine (rowOf_any op q _ HQ).mono ?_
 rw [HI.out]
 rintro e w1 ⟨rfl, k1⟩
 have bx := ((Blk.new w 45 #[.int .i64 op, .int .i64 a, .int .i64 b]).alloc (.cells rowZ 82)).keep k1 id
 have br := (Blk.new (w.alloc (.cells #[.int .i64 op, .int .i64 a, .int .i64 b] 45)) 82 rowZ).keep k1 id
 rw [World.size_alloc] at br
 have hK := keepN (((Keep.refl NoB w).alloc _).alloc _) k1
 have hz := br.lt
 go_wp2_with fail
 have b2 := Blk.new w1 82 #[.string (str q.name), .int .i64 q.ka, .int .i64 q.kb, .int .i64 q.ta, .int .i64 q.tb, .int .i64 q.la, .int .i64 q.lb, .bool q.hop, .bool q.fin]
 have bx2 := bx.alloc (.cells #[.string (str q.name), .int .i64 q.ka, .int .i64 q.kb, .int .i64 q.ta, .int .i64 q.tb, .int .i64 q.la, .int .i64 q.lb, .bool q.hop, .bool q.fin] 82)
 have br2 := br.alloc (.cells #[.string (str q.name), .int .i64 q.ka, .int .i64 q.kb, .int .i64 q.ta, .int .i64 q.tb, .int .i64 q.la, .int .i64 q.lb, .bool q.hop, .bool q.fin] 82)
 have hK2 := hK.alloc (.cells #[.string (str q.name), .int .i64 q.ka, .int .i64 q.kb, .int .i64 q.ta, .int .i64 q.tb, .int .i64 q.la, .int .i64 q.lb, .bool q.hop, .bool q.fin] 82)
 obtain ⟨w2, hw2⟩ : ∃ w2, w1.alloc (.cells #[.string (str q.name), .int .i64 q.ka, .int .i64 q.kb, .int .i64 q.ta, .int .i64 q.tb, .int .i64 q.la, .int .i64 q.lb, .bool q.hop, .bool q.fin] 82) = w2 := ⟨_, rfl⟩
 rw [hw2] at b2 bx2 br2 hK2
 have HW := Lib.hid hw2
 rw [hw2]
 clear hw2 bx br hK k1
 ·refine wp_region_sh ((0, false) :: (1, false) :: (2, false) :: (3, false) :: (4, false) :: (5, false) :: (7, false) :: (8, false) :: (6, true) :: (9, false) :: (10, false) :: (11, false) :: (12, false) :: (13, false) :: (14, false) :: (15, false) :: (17, false) :: (18, false) :: (16, true) :: (19, false) :: (20, false) :: (21, false) :: []) (fun w' => Keep NoB w2 w') (by kernel_rfl) (by kernel_rfl) (by rfl) (by kernel_rfl) (stable_keep w2) (Keep.refl NoB w2).drew ?_
  refine shM_step rfl rfl rfl (by rfl) (by rfl) ?_
  apply Exists.intro
  refine ⟨fun n K hK => ?_, ?_, ?_⟩
  ·go_big_quiet_op
   exact hK _ rfl
  ·kernel_rfl
  refine shM_step rfl rfl rfl (by rfl) (by rfl) ?_
  apply Exists.intro
  refine ⟨fun n K hK => ?_, ?_, ?_⟩
  ·go_big_quiet_op
   exact hK _ rfl
  ·kernel_rfl
  refine shM_step rfl rfl rfl (by rfl) (by rfl) ?_
  apply Exists.intro
  refine ⟨fun n K hK => ?_, ?_, ?_⟩
  ·go_big_quiet_op
   exact hK _ rfl
  ·kernel_rfl
  refine shM_skip rfl (by kernel_rfl) (by kernel_rfl) ?_
  refine shM_skip rfl (by kernel_rfl) (by kernel_rfl) ?_
  refine shM_skip rfl (by kernel_rfl) (by kernel_rfl) ?_
  refine shM_skip rfl (by kernel_rfl) (by kernel_rfl) ?_
  refine shM_skip rfl (by kernel_rfl) (by kernel_rfl) ?_
  refine shM_skip rfl (by kernel_rfl) (by kernel_rfl) ?_
  refine shM_skip rfl (by kernel_rfl) (by kernel_rfl) ?_
  refine shM_skip rfl (by kernel_rfl) (by kernel_rfl) ?_
  refine shM_step rfl rfl rfl (by rfl) (by rfl) ?_
  apply Exists.intro
  refine ⟨fun n K hK => ?_, ?_, ?_⟩
  ·go_big_quiet_op
   exact hK _ rfl
  ·kernel_rfl
  refine shM_step rfl rfl rfl (by rfl) (by rfl) ?_
  apply Exists.intro
  refine ⟨fun n K hK => ?_, ?_, ?_⟩
  ·go_big_quiet_op
   exact hK _ rfl
  ·kernel_rfl
  refine shM_skip rfl (by kernel_rfl) (by kernel_rfl) ?_
  refine shM_skip rfl (by kernel_rfl) (by kernel_rfl) ?_
  refine shM_skip rfl (by kernel_rfl) (by kernel_rfl) ?_
  refine shM_skip rfl (by kernel_rfl) (by kernel_rfl) ?_
  refine shM_skip rfl (by kernel_rfl) (by kernel_rfl) ?_
  refine shM_skip rfl (by kernel_rfl) (by kernel_rfl) ?_
  refine shM_skip rfl (by kernel_rfl) (by kernel_rfl) ?_
  refine shM_skip rfl (by kernel_rfl) (by kernel_rfl) ?_
  refine shM_step rfl rfl rfl (by rfl) (by rfl) ?_
  apply Exists.intro
  refine ⟨fun n K hK => ?_, ?_, ?_⟩
  ·go_big_quiet_op
   exact hK _ rfl
  ·kernel_rfl
  refine shM_nil (fun n => ?_)
  have k3 := n.has
  generalize n.w = w3 at k3 ⊢
  have b3 := b2.keep k3 id
  have br3 := br2.keep k3 id
  have hK3 := keepN hK2 k3
  have f0 := fun i => br3.frozen i
  obtain ⟨c0, c1, c2, c3, c4, c5, c6, c7, c8⟩ := blk9 br3
  have hz3 := br3.lt
  clear k3 b2 br2 hK2 bx2
  go_wp2
  exact bodyPost_ret (v := .tuple #[rowV row0, .bool false]) (by simp [results, Tryz.results61, go_sem, c0, c1, c2, c3, c4, c5, c6, c7, c8, row0]) rfl ⟨rfl, keep9 hK3 (Nat.le_succ _) _ _ _ _ _ _ _ _ _⟩

set_option maxRecDepth 100000 in
set_option maxHeartbeats 1000000 in
theorem rowFor_b (op a b : Int) (q : Row) (w : World) (HQ : Hid (rowAt op = q)) (HI : Hid (isOp op = true)) (HA : Hid (inK q.ka a = false)) (hka : 0 ≤ q.ka ∧ q.ka ≤ 10) :
  Calls Tryz.prog 61 #[instV op a b] w (ForR row0 false w) := by
 go_enter Tryz.func61, Tryz.ntmps61
 go_wp2_with fail
 refine (rowOf_any op q _ HQ).mono ?_
 rw [HI.out]
 rintro e w1 ⟨rfl, k1⟩
 have bx := ((Blk.new w 45 #[.int .i64 op, .int .i64 a, .int .i64 b]).alloc (.cells rowZ 82)).keep k1 id
 have br := (Blk.new (w.alloc (.cells #[.int .i64 op, .int .i64 a, .int .i64 b] 45)) 82 rowZ).keep k1 id
 rw [World.size_alloc] at br
 have hK := keepN (((Keep.refl NoB w).alloc _).alloc _) k1
 have hz := br.lt
 go_wp2_with fail
 have b2 := Blk.new w1 82 #[.string (str q.name), .int .i64 q.ka, .int .i64 q.kb, .int .i64 q.ta, .int .i64 q.tb, .int .i64 q.la, .int .i64 q.lb, .bool q.hop, .bool q.fin]
 have bx2 := bx.alloc (.cells #[.string (str q.name), .int .i64 q.ka, .int .i64 q.kb, .int .i64 q.ta, .int .i64 q.tb, .int .i64 q.la, .int .i64 q.lb, .bool q.hop, .bool q.fin] 82)
 have br2 := br.alloc (.cells #[.string (str q.name), .int .i64 q.ka, .int .i64 q.kb, .int .i64 q.ta, .int .i64 q.tb, .int .i64 q.la, .int .i64 q.lb, .bool q.hop, .bool q.fin] 82)
 have hK2 := hK.alloc (.cells #[.string (str q.name), .int .i64 q.ka, .int .i64 q.kb, .int .i64 q.ta, .int .i64 q.tb, .int .i64 q.la, .int .i64 q.lb, .bool q.hop, .bool q.fin] 82)
 obtain ⟨w2, hw2⟩ : ∃ w2, w1.alloc (.cells #[.string (str q.name), .int .i64 q.ka, .int .i64 q.kb, .int .i64 q.ta, .int .i64 q.tb, .int .i64 q.la, .int .i64 q.lb, .bool q.hop, .bool q.fin] 82) = w2 := ⟨_, rfl⟩
 rw [hw2] at b2 bx2 br2 hK2
 have HW := Lib.hid hw2
 rw [hw2]
 clear hw2 bx br hK k1
 ·refine wp_region_sh ((0, false) :: (1, false) :: (2, false) :: (3, false) :: (4, false) :: (5, false) :: (7, false) :: (8, false) :: (6, true) :: (9, false) :: (10, false) :: (11, false) :: (12, false) :: (13, false) :: (14, false) :: (15, false) :: (17, false) :: (18, false) :: (16, true) :: (19, false) :: (20, false) :: (21, false) :: []) (fun w' => Keep NoB w2 w') (by kernel_rfl) (by kernel_rfl) (by rfl) (by kernel_rfl) (stable_keep w2) (Keep.refl NoB w2).drew ?_
  refine shM_step rfl rfl rfl (by rfl) (by rfl) ?_
  apply Exists.intro
  refine ⟨fun n K hK => ?_, ?_, ?_⟩
  ·go_big_quiet_op
   exact hK _ rfl
  ·kernel_rfl
  refine shM_step rfl rfl rfl (by rfl) (by rfl) ?_
  apply Exists.intro
  refine ⟨fun n K hK => ?_, ?_, ?_⟩
  ·go_big_quiet_op
   exact hK _ rfl
  ·kernel_rfl
  refine shM_step rfl rfl rfl (by rfl) (by rfl) ?_
  apply Exists.intro
  refine ⟨fun n K hK => ?_, ?_, ?_⟩
  ·go_big_quiet_op
   exact hK _ rfl
  ·kernel_rfl
  refine shM_step rfl rfl rfl (by rfl) (by rfl) ?_
  apply Exists.intro
  refine ⟨fun n K hK => ?_, ?_, ?_⟩
  ·go_big_quiet_op
   exact hK _ rfl
  ·kernel_rfl
  refine shM_step rfl rfl rfl (by rfl) (by rfl) ?_
  apply Exists.intro
  refine ⟨fun n K hK => ?_, ?_, ?_⟩
  ·go_big_quiet_op
   exact hK _ rfl
  ·kernel_rfl
  refine shM_step rfl rfl rfl (by rfl) (by rfl) ?_
  apply Exists.intro
  refine ⟨fun n K hK => ?_, ?_, ?_⟩
  ·have q1 : ∀ m : KW n.w, m.w.cell? ⟨w1.heap.size, 1, none⟩ = some (.int .i64 q.ka) := fun m => (b2.keep (keepN n.has m.keep) id).cell 1
   go_big_quiet_op
   exact hK _ rfl
  ·kernel_rfl
  refine shM_step rfl rfl rfl (by rfl) (by rfl) ?_
  apply Exists.intro
  refine ⟨fun n K hK => ?_, ?_, ?_⟩
  ·go_big_quiet_op
   exact hK _ rfl
  ·kernel_rfl
  refine shM_step rfl rfl rfl (by rfl) (by rfl) ?_
  apply Exists.intro
  refine ⟨fun n K hK => ?_, ?_, ?_⟩
  ·have x1 : ∀ m : KW n.w, m.w.cell? ⟨w.heap.size, 1, none⟩ = some (.int .i64 a) := fun m => (bx2.keep (keepN n.has m.keep) id).cell 1
   go_big_quiet_op
   exact hK _ rfl
  ·kernel_rfl
  refine shM_gen rfl rfl (by kernel_rfl) (fun v _ => ∃ sh gu, v = opV q.ka sh gu) (fun v w w' h _ => h) (fun n => ?_) (fun v1 => ?_)
  ·unfold yieldsK
   go_simp
   exact op_gen q.ka hka _
  simp only [Act.put, List.setIfInBounds_toArray, List.set_cons_zero, List.set_cons_succ]
  refine shM_step rfl rfl rfl (by rfl) (by rfl) ?_
  apply Exists.intro
  refine ⟨fun n K hK => ?_, ?_, ?_⟩
  ·go_big_quiet_op
   apply Exists.intro
   refine ⟨fun m => ?_, ?_⟩
   ·go_at_call 82
    exact kept_of (has_gen q.ka a v1 false _ HA.out n.has.2)
   ·exact hK _ rfl
  ·kernel_rfl
  refine shM_step rfl rfl rfl (by rfl) (by rfl) ?_
  apply Exists.intro
  refine ⟨fun n K hK => ?_, ?_, ?_⟩
  ·go_big_quiet_op
   exact hK _ rfl
  ·kernel_rfl
  refine shM_step rfl rfl rfl (by rfl) (by rfl) ?_
  apply Exists.intro
  refine ⟨fun n K hK => ?_, ?_, ?_⟩
  ·go_big_quiet_op
   exact hK _ rfl
  ·kernel_rfl
  refine shM_step rfl rfl rfl (by rfl) (by rfl) ?_
  apply Exists.intro
  refine ⟨fun n K hK => ?_, ?_, ?_⟩
  ·go_big_quiet_op
   exact hK _ rfl
  ·kernel_rfl
  refine shM_skip rfl (by kernel_rfl) (by kernel_rfl) ?_
  refine shM_skip rfl (by kernel_rfl) (by kernel_rfl) ?_
  refine shM_skip rfl (by kernel_rfl) (by kernel_rfl) ?_
  refine shM_skip rfl (by kernel_rfl) (by kernel_rfl) ?_
  refine shM_skip rfl (by kernel_rfl) (by kernel_rfl) ?_
  refine shM_skip rfl (by kernel_rfl) (by kernel_rfl) ?_
  refine shM_skip rfl (by kernel_rfl) (by kernel_rfl) ?_
  refine shM_skip rfl (by kernel_rfl) (by kernel_rfl) ?_
  refine shM_step rfl rfl rfl (by rfl) (by rfl) ?_
  apply Exists.intro
  refine ⟨fun n K hK => ?_, ?_, ?_⟩
  ·go_big_quiet_op
   exact hK _ rfl
  ·kernel_rfl
  refine shM_nil (fun n => ?_)
  have k3 := n.has.1
  generalize n.w = w3 at k3 ⊢
  have b3 := b2.keep k3 id
  have br3 := br2.keep k3 id
  have hK3 := keepN hK2 k3
  have f0 := fun i => br3.frozen i
  obtain ⟨c0, c1, c2, c3, c4, c5, c6, c7, c8⟩ := blk9 br3
  have hz3 := br3.lt
  clear k3 b2 br2 hK2 bx2
  go_wp2
  exact bodyPost_ret (v := .tuple #[rowV row0, .bool false]) (by simp [results, Tryz.results61, go_sem, c0, c1, c2, c3, c4, c5, c6, c7, c8, row0]) rfl ⟨rfl, keep9 hK3 (Nat.le_succ _) _ _ _ _ _ _ _ _ _⟩

set_option maxRecDepth 100000 in
set_option maxHeartbeats 1000000 in
theorem rowFor_c (op a b : Int) (q : Row) (w : World) (HQ : Hid (rowAt op = q)) (HI : Hid (isOp op = true)) (HA : Hid (inK q.ka a = true)) (HB : Hid (inK q.kb b = false)) (hka : 0 ≤ q.ka ∧ q.ka ≤ 10) (hkb : 0 ≤ q.kb ∧ q.kb ≤ 10) :
  Calls Tryz.prog 61 #[instV op a b] w (ForR row0 false w) := by
 go_enter Tryz.func61, Tryz.ntmps61
 go_wp2_with fail
 refine (rowOf_any op q _ HQ).mono ?_
 rw [HI.out]
 rintro e w1 ⟨rfl, k1⟩
 have bx := ((Blk.new w 45 #[.int .i64 op, .int .i64 a, .int .i64 b]).alloc (.cells rowZ 82)).keep k1 id
 have br := (Blk.new (w.alloc (.cells #[.int .i64 op, .int .i64 a, .int .i64 b] 45)) 82 rowZ).keep k1 id
 rw [World.size_alloc] at br
 have hK := keepN (((Keep.refl NoB w).alloc _).alloc _) k1
 have hz := br.lt
 go_wp2_with fail
 have b2 := Blk.new w1 82 #[.string (str q.name), .int .i64 q.ka, .int .i64 q.kb, .int .i64 q.ta, .int .i64 q.tb, .int .i64 q.la, .int .i64 q.lb, .bool q.hop, .bool q.fin]
 have bx2 := bx.alloc (.cells #[.string (str q.name), .int .i64 q.ka, .int .i64 q.kb, .int .i64 q.ta, .int .i64 q.tb, .int .i64 q.la, .int .i64 q.lb, .bool q.hop, .bool q.fin] 82)
 have br2 := br.alloc (.cells #[.string (str q.name), .int .i64 q.ka, .int .i64 q.kb, .int .i64 q.ta, .int .i64 q.tb, .int .i64 q.la, .int .i64 q.lb, .bool q.hop, .bool q.fin] 82)
 have hK2 := hK.alloc (.cells #[.string (str q.name), .int .i64 q.ka, .int .i64 q.kb, .int .i64 q.ta, .int .i64 q.tb, .int .i64 q.la, .int .i64 q.lb, .bool q.hop, .bool q.fin] 82)
 obtain ⟨w2, hw2⟩ : ∃ w2, w1.alloc (.cells #[.string (str q.name), .int .i64 q.ka, .int .i64 q.kb, .int .i64 q.ta, .int .i64 q.tb, .int .i64 q.la, .int .i64 q.lb, .bool q.hop, .bool q.fin] 82) = w2 := ⟨_, rfl⟩
 rw [hw2] at b2 bx2 br2 hK2
 have HW := Lib.hid hw2
 rw [hw2]
 clear hw2 bx br hK k1
 ·refine wp_region_sh ((0, false) :: (1, false) :: (2, false) :: (3, false) :: (4, false) :: (5, false) :: (7, false) :: (8, false) :: (6, true) :: (9, false) :: (10, false) :: (11, false) :: (12, false) :: (13, false) :: (14, false) :: (15, false) :: (17, false) :: (18, false) :: (16, true) :: (19, false) :: (20, false) :: (21, false) :: []) (fun w' => Keep NoB w2 w') (by kernel_rfl) (by kernel_rfl) (by rfl) (by kernel_rfl) (stable_keep w2) (Keep.refl NoB w2).drew ?_
  refine shM_step rfl rfl rfl (by rfl) (by rfl) ?_
  apply Exists.intro
  refine ⟨fun n K hK => ?_, ?_, ?_⟩
  ·go_big_quiet_op
   exact hK _ rfl
  ·kernel_rfl
  refine shM_step rfl rfl rfl (by rfl) (by rfl) ?_
  apply Exists.intro
  refine ⟨fun n K hK => ?_, ?_, ?_⟩
  ·go_big_quiet_op
   exact hK _ rfl
  ·kernel_rfl
  refine shM_step rfl rfl rfl (by rfl) (by rfl) ?_
  apply Exists.intro
  refine ⟨fun n K hK => ?_, ?_, ?_⟩
  ·go_big_quiet_op
   exact hK _ rfl
  ·kernel_rfl
  refine shM_step rfl rfl rfl (by rfl) (by rfl) ?_
  apply Exists.intro
  refine ⟨fun n K hK => ?_, ?_, ?_⟩
  ·go_big_quiet_op
   exact hK _ rfl
  ·kernel_rfl
  refine shM_step rfl rfl rfl (by rfl) (by rfl) ?_
  apply Exists.intro
  refine ⟨fun n K hK => ?_, ?_, ?_⟩
  ·go_big_quiet_op
   exact hK _ rfl
  ·kernel_rfl
  refine shM_step rfl rfl rfl (by rfl) (by rfl) ?_
  apply Exists.intro
  refine ⟨fun n K hK => ?_, ?_, ?_⟩
  ·have q1 : ∀ m : KW n.w, m.w.cell? ⟨w1.heap.size, 1, none⟩ = some (.int .i64 q.ka) := fun m => (b2.keep (keepN n.has m.keep) id).cell 1
   go_big_quiet_op
   exact hK _ rfl
  ·kernel_rfl
  refine shM_step rfl rfl rfl (by rfl) (by rfl) ?_
  apply Exists.intro
  refine ⟨fun n K hK => ?_, ?_, ?_⟩
  ·go_big_quiet_op
   exact hK _ rfl
  ·kernel_rfl
  refine shM_step rfl rfl rfl (by rfl) (by rfl) ?_
  apply Exists.intro
  refine ⟨fun n K hK => ?_, ?_, ?_⟩
  ·have x1 : ∀ m : KW n.w, m.w.cell? ⟨w.heap.size, 1, none⟩ = some (.int .i64 a) := fun m => (bx2.keep (keepN n.has m.keep) id).cell 1
   go_big_quiet_op
   exact hK _ rfl
  ·kernel_rfl
  refine shM_gen rfl rfl (by kernel_rfl) (fun v _ => ∃ sh gu, v = opV q.ka sh gu) (fun v w w' h _ => h) (fun n => ?_) (fun v1 => ?_)
  ·unfold yieldsK
   go_simp
   exact op_gen q.ka hka _
  simp only [Act.put, List.setIfInBounds_toArray, List.set_cons_zero, List.set_cons_succ]
  refine shM_step rfl rfl rfl (by rfl) (by rfl) ?_
  apply Exists.intro
  refine ⟨fun n K hK => ?_, ?_, ?_⟩
  ·go_big_quiet_op
   apply Exists.intro
   refine ⟨fun m => ?_, ?_⟩
   ·go_at_call 82
    exact kept_of (has_gen q.ka a v1 true _ HA.out n.has.2)
   ·exact hK _ rfl
  ·kernel_rfl
  refine shM_step rfl rfl rfl (by rfl) (by rfl) ?_
  apply Exists.intro
  refine ⟨fun n K hK => ?_, ?_, ?_⟩
  ·go_big_quiet_op
   exact hK _ rfl
  ·kernel_rfl
  refine shM_step rfl rfl rfl (by rfl) (by rfl) ?_
  apply Exists.intro
  refine ⟨fun n K hK => ?_, ?_, ?_⟩
  ·go_big_quiet_op
   exact hK _ rfl
  ·kernel_rfl
  refine shM_step rfl rfl rfl (by rfl) (by rfl) ?_
  apply Exists.intro
  refine ⟨fun n K hK => ?_, ?_, ?_⟩
  ·go_big_quiet_op
   exact hK _ rfl
  ·kernel_rfl
  refine shM_step rfl rfl rfl (by rfl) (by rfl) ?_
  apply Exists.intro
  refine ⟨fun n K hK => ?_, ?_, ?_⟩
  ·go_big_quiet_op
   exact hK _ rfl
  ·kernel_rfl
  refine shM_step rfl rfl rfl (by rfl) (by rfl) ?_
  apply Exists.intro
  refine ⟨fun n K hK => ?_, ?_, ?_⟩
  ·go_big_quiet_op
   exact hK _ rfl
  ·kernel_rfl
  refine shM_step rfl rfl rfl (by rfl) (by rfl) ?_
  apply Exists.intro
  refine ⟨fun n K hK => ?_, ?_, ?_⟩
  ·have q1 : ∀ m : KW n.w, m.w.cell? ⟨w1.heap.size, 2, none⟩ = some (.int .i64 q.kb) := fun m => (b2.keep (keepN n.has.1 m.keep) id).cell 2
   go_big_quiet_op
   exact hK _ rfl
  ·kernel_rfl
  refine shM_step rfl rfl rfl (by rfl) (by rfl) ?_
  apply Exists.intro
  refine ⟨fun n K hK => ?_, ?_, ?_⟩
  ·go_big_quiet_op
   exact hK _ rfl
  ·kernel_rfl
  refine shM_step rfl rfl rfl (by rfl) (by rfl) ?_
  apply Exists.intro
  refine ⟨fun n K hK => ?_, ?_, ?_⟩
  ·have x1 : ∀ m : KW n.w, m.w.cell? ⟨w.heap.size, 2, none⟩ = some (.int .i64 b) := fun m => (bx2.keep (keepN n.has.1 m.keep) id).cell 2
   go_big_quiet_op
   exact hK _ rfl
  ·kernel_rfl
  refine shM_gen rfl rfl (by kernel_rfl) (fun v _ => ∃ sh gu, v = opV q.kb sh gu) (fun v w w' h _ => h) (fun n => ?_) (fun v2 => ?_)
  ·unfold yieldsK
   go_simp
   exact op_gen q.kb hkb _
  simp only [Act.put, List.setIfInBounds_toArray, List.set_cons_zero, List.set_cons_succ]
  refine shM_step rfl rfl rfl (by rfl) (by rfl) ?_
  apply Exists.intro
  refine ⟨fun n K hK => ?_, ?_, ?_⟩
  ·go_big_quiet_op
   apply Exists.intro
   refine ⟨fun m => ?_, ?_⟩
   ·go_at_call 82
    exact kept_of (has_gen q.kb b v2 false _ HB.out n.has.2)
   ·exact hK _ rfl
  ·kernel_rfl
  refine shM_step rfl rfl rfl (by rfl) (by rfl) ?_
  apply Exists.intro
  refine ⟨fun n K hK => ?_, ?_, ?_⟩
  ·go_big_quiet_op
   exact hK _ rfl
  ·kernel_rfl
  refine shM_step rfl rfl rfl (by rfl) (by rfl) ?_
  apply Exists.intro
  refine ⟨fun n K hK => ?_, ?_, ?_⟩
  ·go_big_quiet_op
   exact hK _ rfl
  ·kernel_rfl
  refine shM_nil (fun n => ?_)
  have k3 := n.has.1.1
  generalize n.w = w3 at k3 ⊢
  have b3 := b2.keep k3 id
  have br3 := br2.keep k3 id
  have hK3 := keepN hK2 k3
  have f0 := fun i => br3.frozen i
  obtain ⟨c0, c1, c2, c3, c4, c5, c6, c7, c8⟩ := blk9 br3
  have hz3 := br3.lt
  clear k3 b2 br2 hK2 bx2
  go_wp2
  exact bodyPost_ret (v := .tuple #[rowV row0, .bool false]) (by simp [results, Tryz.results61, go_sem, c0, c1, c2, c3, c4, c5, c6, c7, c8, row0]) rfl ⟨rfl, keep9 hK3 (Nat.le_succ _) _ _ _ _ _ _ _ _ _⟩

set_option maxRecDepth 100000 in
set_option maxHeartbeats 1000000 in
theorem rowFor_d (op a b : Int) (q : Row) (w : World) (HQ : Hid (rowAt op = q)) (HI : Hid (isOp op = true)) (HA : Hid (inK q.ka a = true)) (HB : Hid (inK q.kb b = true)) (hka : 0 ≤ q.ka ∧ q.ka ≤ 10) (hkb : 0 ≤ q.kb ∧ q.kb ≤ 10) :
  Calls Tryz.prog 61 #[instV op a b] w (ForR q true w) := by
 go_enter Tryz.func61, Tryz.ntmps61
 go_wp2_with fail
 refine (rowOf_any op q _ HQ).mono ?_
 rw [HI.out]
 rintro e w1 ⟨rfl, k1⟩
 have bx := ((Blk.new w 45 #[.int .i64 op, .int .i64 a, .int .i64 b]).alloc (.cells rowZ 82)).keep k1 id
 have br := (Blk.new (w.alloc (.cells #[.int .i64 op, .int .i64 a, .int .i64 b] 45)) 82 rowZ).keep k1 id
 rw [World.size_alloc] at br
 have hK := keepN (((Keep.refl NoB w).alloc _).alloc _) k1
 have hz := br.lt
 go_wp2_with fail
 have b2 := Blk.new w1 82 #[.string (str q.name), .int .i64 q.ka, .int .i64 q.kb, .int .i64 q.ta, .int .i64 q.tb, .int .i64 q.la, .int .i64 q.lb, .bool q.hop, .bool q.fin]
 have bx2 := bx.alloc (.cells #[.string (str q.name), .int .i64 q.ka, .int .i64 q.kb, .int .i64 q.ta, .int .i64 q.tb, .int .i64 q.la, .int .i64 q.lb, .bool q.hop, .bool q.fin] 82)
 have br2 := br.alloc (.cells #[.string (str q.name), .int .i64 q.ka, .int .i64 q.kb, .int .i64 q.ta, .int .i64 q.tb, .int .i64 q.la, .int .i64 q.lb, .bool q.hop, .bool q.fin] 82)
 have hK2 := hK.alloc (.cells #[.string (str q.name), .int .i64 q.ka, .int .i64 q.kb, .int .i64 q.ta, .int .i64 q.tb, .int .i64 q.la, .int .i64 q.lb, .bool q.hop, .bool q.fin] 82)
 obtain ⟨w2, hw2⟩ : ∃ w2, w1.alloc (.cells #[.string (str q.name), .int .i64 q.ka, .int .i64 q.kb, .int .i64 q.ta, .int .i64 q.tb, .int .i64 q.la, .int .i64 q.lb, .bool q.hop, .bool q.fin] 82) = w2 := ⟨_, rfl⟩
 rw [hw2] at b2 bx2 br2 hK2
 have HW := Lib.hid hw2
 rw [hw2]
 clear hw2 bx br hK k1
 ·refine wp_region_sh ((0, false) :: (1, false) :: (2, false) :: (3, false) :: (4, false) :: (5, false) :: (7, false) :: (8, false) :: (6, true) :: (9, false) :: (10, false) :: (11, false) :: (12, false) :: (13, false) :: (14, false) :: (15, false) :: (17, false) :: (18, false) :: (16, true) :: (19, false) :: (20, false) :: (21, false) :: []) (fun w' => Keep NoB w2 w') (by kernel_rfl) (by kernel_rfl) (by rfl) (by kernel_rfl) (stable_keep w2) (Keep.refl NoB w2).drew ?_
  refine shM_step rfl rfl rfl (by rfl) (by rfl) ?_
  apply Exists.intro
  refine ⟨fun n K hK => ?_, ?_, ?_⟩
  ·go_big_quiet_op
   exact hK _ rfl
  ·kernel_rfl
  refine shM_step rfl rfl rfl (by rfl) (by rfl) ?_
  apply Exists.intro
  refine ⟨fun n K hK => ?_, ?_, ?_⟩
  ·go_big_quiet_op
   exact hK _ rfl
  ·kernel_rfl
  refine shM_step rfl rfl rfl (by rfl) (by rfl) ?_
  apply Exists.intro
  refine ⟨fun n K hK => ?_, ?_, ?_⟩
  ·go_big_quiet_op
   exact hK _ rfl
  ·kernel_rfl
  refine shM_step rfl rfl rfl (by rfl) (by rfl) ?_
  apply Exists.intro
  refine ⟨fun n K hK => ?_, ?_, ?_⟩
  ·go_big_quiet_op
   exact hK _ rfl
  ·kernel_rfl
  refine shM_step rfl rfl rfl (by rfl) (by rfl) ?_
  apply Exists.intro
  refine ⟨fun n K hK => ?_, ?_, ?_⟩
  ·go_big_quiet_op
   exact hK _ rfl
  ·kernel_rfl
  refine shM_step rfl rfl rfl (by rfl) (by rfl) ?_
  apply Exists.intro
  refine ⟨fun n K hK => ?_, ?_, ?_⟩
  ·have q1 : ∀ m : KW n.w, m.w.cell? ⟨w1.heap.size, 1, none⟩ = some (.int .i64 q.ka) := fun m => (b2.keep (keepN n.has m.keep) id).cell 1
   go_big_quiet_op
   exact hK _ rfl
  ·kernel_rfl
  refine shM_step rfl rfl rfl (by rfl) (by rfl) ?_
  apply Exists.intro
  refine ⟨fun n K hK => ?_, ?_, ?_⟩
  ·go_big_quiet_op
   exact hK _ rfl
  ·kernel_rfl
  refine shM_step rfl rfl rfl (by rfl) (by rfl) ?_
  apply Exists.intro
  refine ⟨fun n K hK => ?_, ?_, ?_⟩
  ·have x1 : ∀ m : KW n.w, m.w.cell? ⟨w.heap.size, 1, none⟩ = some (.int .i64 a) := fun m => (bx2.keep (keepN n.has m.keep) id).cell 1
   go_big_quiet_op
   exact hK _ rfl
  ·kernel_rfl
  refine shM_gen rfl rfl (by kernel_rfl) (fun v _ => ∃ sh gu, v = opV q.ka sh gu) (fun v w w' h _ => h) (fun n => ?_) (fun v1 => ?_)
  ·unfold yieldsK
   go_simp
   exact op_gen q.ka hka _
  simp only [Act.put, List.setIfInBounds_toArray, List.set_cons_zero, List.set_cons_succ]
  refine shM_step rfl rfl rfl (by rfl) (by rfl) ?_
  apply Exists.intro
  refine ⟨fun n K hK => ?_, ?_, ?_⟩
  ·go_big_quiet_op
   apply Exists.intro
   refine ⟨fun m => ?_, ?_⟩
   ·go_at_call 82
    exact kept_of (has_gen q.ka a v1 true _ HA.out n.has.2)
   ·exact hK _ rfl
  ·kernel_rfl
  refine shM_step rfl rfl rfl (by rfl) (by rfl) ?_
  apply Exists.intro
  refine ⟨fun n K hK => ?_, ?_, ?_⟩
  ·go_big_quiet_op
   exact hK _ rfl
  ·kernel_rfl
  refine shM_step rfl rfl rfl (by rfl) (by rfl) ?_
  apply Exists.intro
  refine ⟨fun n K hK => ?_, ?_, ?_⟩
  ·go_big_quiet_op
   exact hK _ rfl
  ·kernel_rfl
  refine shM_step rfl rfl rfl (by rfl) (by rfl) ?_
  apply Exists.intro
  refine ⟨fun n K hK => ?_, ?_, ?_⟩
  ·go_big_quiet_op
   exact hK _ rfl
  ·kernel_rfl
  refine shM_step rfl rfl rfl (by rfl) (by rfl) ?_
  apply Exists.intro
  refine ⟨fun n K hK => ?_, ?_, ?_⟩
  ·go_big_quiet_op
   exact hK _ rfl
  ·kernel_rfl
  refine shM_step rfl rfl rfl (by rfl) (by rfl) ?_
  apply Exists.intro
  refine ⟨fun n K hK => ?_, ?_, ?_⟩
  ·go_big_quiet_op
   exact hK _ rfl
  ·kernel_rfl
  refine shM_step rfl rfl rfl (by rfl) (by rfl) ?_
  apply Exists.intro
  refine ⟨fun n K hK => ?_, ?_, ?_⟩
  ·have q1 : ∀ m : KW n.w, m.w.cell? ⟨w1.heap.size, 2, none⟩ = some (.int .i64 q.kb) := fun m => (b2.keep (keepN n.has.1 m.keep) id).cell 2
   go_big_quiet_op
   exact hK _ rfl
  ·kernel_rfl
  refine shM_step rfl rfl rfl (by rfl) (by rfl) ?_
  apply Exists.intro
  refine ⟨fun n K hK => ?_, ?_, ?_⟩
  ·go_big_quiet_op
   exact hK _ rfl
  ·kernel_rfl
  refine shM_step rfl rfl rfl (by rfl) (by rfl) ?_
  apply Exists.intro
  refine ⟨fun n K hK => ?_, ?_, ?_⟩
  ·have x1 : ∀ m : KW n.w, m.w.cell? ⟨w.heap.size, 2, none⟩ = some (.int .i64 b) := fun m => (bx2.keep (keepN n.has.1 m.keep) id).cell 2
   go_big_quiet_op
   exact hK _ rfl
  ·kernel_rfl
  refine shM_gen rfl rfl (by kernel_rfl) (fun v _ => ∃ sh gu, v = opV q.kb sh gu) (fun v w w' h _ => h) (fun n => ?_) (fun v2 => ?_)
  ·unfold yieldsK
   go_simp
   exact op_gen q.kb hkb _
  simp only [Act.put, List.setIfInBounds_toArray, List.set_cons_zero, List.set_cons_succ]
  refine shM_step rfl rfl rfl (by rfl) (by rfl) ?_
  apply Exists.intro
  refine ⟨fun n K hK => ?_, ?_, ?_⟩
  ·go_big_quiet_op
   apply Exists.intro
   refine ⟨fun m => ?_, ?_⟩
   ·go_at_call 82
    exact kept_of (has_gen q.kb b v2 true _ HB.out n.has.2)
   ·exact hK _ rfl
  ·kernel_rfl
  refine shM_step rfl rfl rfl (by rfl) (by rfl) ?_
  apply Exists.intro
  refine ⟨fun n K hK => ?_, ?_, ?_⟩
  ·go_big_quiet_op
   exact hK _ rfl
  ·kernel_rfl
  refine shM_step rfl rfl rfl (by rfl) (by rfl) ?_
  apply Exists.intro
  refine ⟨fun n K hK => ?_, ?_, ?_⟩
  ·go_big_quiet_op
   exact hK _ rfl
  ·kernel_rfl
  refine shM_nil (fun n => ?_)
  have k3 := n.has.1.1
  generalize n.w = w3 at k3 ⊢
  have b3 := b2.keep k3 id
  have br3 := br2.keep k3 id
  have hK3 := keepN hK2 k3
  have f0 := fun i => br3.frozen i
  obtain ⟨c0, c1, c2, c3, c4, c5, c6, c7, c8⟩ := blk9 br3
  obtain ⟨d0, d1, d2, d3, d4, d5, d6, d7, d8⟩ := blk9 b3
  have hz3 := br3.lt
  clear k3 b2 br2 hK2 bx2
  go_wp2
  exact bodyPost_ret (v := .tuple #[rowV q, .bool true]) (by simp [results, Tryz.results61, go_sem, c0, c1, c2, c3, c4, c5, c6, c7, c8]) rfl ⟨rfl, keep9 hK3 (Nat.le_succ _) _ _ _ _ _ _ _ _ _⟩

theorem rowFor_any (op a b : Int) (r : Row) (w : World) (hr : Hid (rowR op a b = r)) : Calls Tryz.prog 61 #[instV op a b] w (ForR r (okI op a b) w) := by
 obtain ⟨h1, h2, h3, h4⟩ := kinds_ok op
 have hr := hr.out
 subst hr
 cases ho : isOp op
 ·have hok : okI op a b = false := by unfold okI; rw [ho]; rfl
  rw [rowR_no hok, hok]
  exact rowFor_a op a b _ w rfl ho
 ·cases ha : inK (rowAt op).ka a
  ·have hok : okI op a b = false := by unfold okI; rw [ho, ha]; rfl
   rw [rowR_no hok, hok]
   exact rowFor_b op a b _ w rfl ho ha ⟨h1, h2⟩
  ·cases hb : inK (rowAt op).kb b
   ·have hok : okI op a b = false := by unfold okI; rw [ho, ha, hb]; rfl
    rw [rowR_no hok, hok]
    exact rowFor_c op a b _ w rfl ho ha hb ⟨h1, h2⟩ ⟨h3, h4⟩
   ·have hok : okI op a b = true := by unfold okI; rw [ho, ha, hb]; rfl
    rw [rowR_ok hok, hok]
    exact rowFor_d op a b _ w rfl ho ha hb ⟨h1, h2⟩ ⟨h3, h4⟩

end Go.Proofs.YtghdibbooegocaaGreatDoor.O

namespace Go.Proofs.YtghdibbooegocaaGreatDoor.O
open Go.RowKit

def chk (op a b : Int) : Int := if okI op a b = true then 0 else 40
def endsI (op a b : Int) : Bool := (rowR op a b).fin
def goesI (op a b : Int) : Bool := decide ((rowR op a b).ka = 10)
def goesN (op a b : Int) : Int := if goesI op a b = true then a else 0
theorem pr2 {a a' : Int} {b b' : Bool} (h1 : a = a') (h2 : b = b') : Ending.returned (.tuple #[.int .i64 a, .bool b]) = .returned (.tuple #[.int .i64 a', .bool b']) := by rw [h1, h2]

set_option maxHeartbeats 1000000 in
theorem check_any (op a b : Int) (w : World) :
  Calls Tryz.prog 46 #[instV op a b] w fun e w' => e = .returned (.int .i64 (chk op a b)) ∧ Keep NoB w w' := by
 have hK := (Keep.refl NoB w).alloc (.cells #[.int .i64 op, .int .i64 a, .int .i64 b] 45)
 obtain ⟨r, hr⟩ : ∃ r, Hid (rowR op a b = r) := ⟨_, rfl⟩
 have HR := Lib.hid (fun w => rowFor_any op a b r w hr)
 cases hok : okI op a b
 ·have HX : Hid (chk op a b = 40) := by show _ = _; unfold chk; rw [if_neg (by rw [hok]; decide)]
  rw [hok] at HR
  clear hok hr
  go_enter Tryz.func46, Tryz.ntmps46
  go_wp2_with fail
  refine (HR.out _).mono ?_
  rintro e w1 ⟨rfl, k1⟩
  go_wp2
  go_ret
  exact ⟨by rw [HX.out]; rfl, (keepN hK k1).alloc _⟩
 ·have HX : Hid (chk op a b = 0) := by show _ = _; unfold chk; rw [if_pos hok]
  rw [hok] at HR
  clear hok hr
  go_enter Tryz.func46, Tryz.ntmps46
  go_wp2_with fail
  refine (HR.out _).mono ?_
  rintro e w1 ⟨rfl, k1⟩
  go_wp2
  go_ret
  exact ⟨by rw [HX.out]; rfl, (keepN hK k1).alloc _⟩

set_option maxHeartbeats 1000000 in
theorem ends_any (op a b : Int) (w : World) :
  Calls Tryz.prog 44 #[instV op a b] w fun e w' => e = .returned (.bool (endsI op a b)) ∧ Keep NoB w w' := by
 have hK := (Keep.refl NoB w).alloc (.cells #[.int .i64 op, .int .i64 a, .int .i64 b] 45)
 obtain ⟨r, hr⟩ : ∃ r, Hid (rowR op a b = r) := ⟨_, rfl⟩
 have HR := Lib.hid (fun w => rowFor_any op a b r w hr)
 have HX : Hid (endsI op a b = r.fin) := by show _ = _; unfold endsI; rw [hr.out]
 clear hr
 go_enter Tryz.func44, Tryz.ntmps44
 go_wp2_with fail
 refine (HR.out _).mono ?_
 rintro e w1 ⟨rfl, k1⟩
 go_wp2
 go_ret
 exact ⟨by rw [HX.out]; rfl, (keepN hK k1).alloc _⟩

set_option maxHeartbeats 1000000 in
theorem goes_any (op a b : Int) (w : World) :
  Calls Tryz.prog 45 #[instV op a b] w fun e w' => e = .returned (.tuple #[.int .i64 (goesN op a b), .bool (goesI op a b)]) ∧ Keep NoB w w' := by
 have hB := Blk.new w 45 #[.int .i64 op, .int .i64 a, .int .i64 b]
 have hK := (Keep.refl NoB w).alloc (.cells #[.int .i64 op, .int .i64 a, .int .i64 b] 45)
 obtain ⟨r, hr⟩ : ∃ r, Hid (rowR op a b = r) := ⟨_, rfl⟩
 have HR := Lib.hid (fun w => rowFor_any op a b r w hr)
 by_cases hg : r.ka = 10
 ·have h1 : goesI op a b = true := decide_eq_true (by rw [hr.out]; exact hg)
  have HX : Hid (goesN op a b = a ∧ goesI op a b = true) := ⟨by unfold goesN; rw [if_pos h1], h1⟩
  have hq : (r.ka != 10) = false := by rw [bne_eq_false_iff_eq]; exact hg
  clear hg h1 hr
  go_enter Tryz.func45, Tryz.ntmps45
  go_wp2_with fail
  refine (HR.out _).mono ?_
  rintro e w1 ⟨rfl, k1⟩
  have b1 := hB.keep k1 id
  have c1 : w1.cell? ⟨w.heap.size, 1, none⟩ = some (.int .i64 a) := b1.cell 1
  have hz := b1.lt
  have c2 : ∀ o, (w1.alloc o).cell? ⟨w.heap.size, 1, none⟩ = some (.int .i64 a) := fun o => (World.cell?_alloc_lt _ _ _ hz).trans c1
  go_wp2
  go_ret2
  exact ⟨pr2 HX.out.1.symm HX.out.2.symm, (keepN hK k1).alloc _⟩
 ·have h1 : goesI op a b = false := decide_eq_false (by rw [hr.out]; exact hg)
  have HX : Hid (goesN op a b = 0 ∧ goesI op a b = false) := ⟨by unfold goesN; rw [if_neg (by rw [h1]; decide)], h1⟩
  have hq : (r.ka != 10) = true := by rw [bne_iff_ne]; exact hg
  clear hg h1 hr
  go_enter Tryz.func45, Tryz.ntmps45
  go_wp2_with fail
  refine (HR.out _).mono ?_
  rintro e w1 ⟨rfl, k1⟩
  go_wp2
  go_ret2
  exact ⟨pr2 HX.out.1.symm HX.out.2.symm, (keepN hK k1).alloc _⟩

set_option maxHeartbeats 1000000 in
theorem kinds_any (op : Int) (w : World) :
  Calls Tryz.prog 78 #[.int .i64 op] w fun e w' => e = .returned (.tuple #[.int .i64 (rowAt op).ka, .int .i64 (rowAt op).kb]) ∧ Keep NoB w w' := by
 obtain ⟨r, hr⟩ : ∃ r, Hid (rowAt op = r) := ⟨_, rfl⟩
 have HR := Lib.hid (fun w => rowOf_any op r w hr)
 rw [hr.out]
 clear hr
 go_enter Tryz.func78, Tryz.ntmps78
 go_wp2_with fail
 refine (HR.out _).mono ?_
 rintro e w1 ⟨rfl, k1⟩
 have b2 := Blk.new w1 82 (cells9 r)
 go_wp2
 go_quiet (fail)
 go_wp2
 go_ret2
 exact ⟨rfl, (k1.alloc _).drewN _⟩

end Go.Proofs.YtghdibbooegocaaGreatDoor.O

namespace Go.Proofs.YtghdibbooegocaaGreatDoor.C
open Go.RowKit O

abbrev I3 := Int × Int × Int
def iis (l : List I3) : List Value := l.flatMap fun x => [.int .i64 x.1, .int .i64 x.2.1, .int .i64 x.2.2]
theorem iis_cons (x : I3) (l : List I3) : iis (x :: l) = [.int .i64 x.1, .int .i64 x.2.1, .int .i64 x.2.2] ++ iis l := by unfold iis; rw [List.flatMap_cons]
theorem iis_append (l r : List I3) : iis (l ++ r) = iis l ++ iis r := by unfold iis; rw [List.flatMap_append]
theorem iis_length (l : List I3) : (iis l).length = l.length * 3 := by
 induction l with
 | nil => rfl
 | cons v l ih => rw [iis_cons, List.length_append, ih]; simp; omega
theorem iis_at : ∀ (l : List I3) (i : Nat) (h : i < l.length), (iis l)[i * 3]? = some (.int .i64 l[i].1) ∧ (iis l)[i * 3 + 1]? = some (.int .i64 l[i].2.1) ∧ (iis l)[i * 3 + 2]? = some (.int .i64 l[i].2.2)
 | v :: l, 0, _ => by rw [iis_cons]; exact ⟨rfl, rfl, rfl⟩
 | v :: l, i + 1, h => by
  have := iis_at l i (by simpa using h)
  rw [iis_cons, show (i + 1) * 3 = i * 3 + 3 by omega]
  exact ⟨by simpa using this.1, by simpa using this.2.1, by simpa using this.2.2⟩
theorem rdJ_at {w : World} {A : Option Addr} {l : List I3} (h : Rd w A (iis l)) (h0 : 0 < l.length) : ∃ g off, A = some ⟨g, off, none⟩ ∧
  ∀ (i : Nat) (hi : i < l.length), w.cell? ⟨g, off + i * 3, none⟩ = some (.int .i64 l[i].1) ∧ w.cell? ⟨g, off + i * 3 + 1, none⟩ = some (.int .i64 l[i].2.1) ∧ w.cell? ⟨g, off + i * 3 + 2, none⟩ = some (.int .i64 l[i].2.2) := by
 obtain ⟨g, off, e, hc⟩ := h (by rw [iis_length]; omega)
 refine ⟨g, off, e, fun i hi => ?_⟩
 obtain ⟨h1, h2, h3⟩ := iis_at l i hi
 exact ⟨hc _ _ h1, hc _ _ h2, hc _ _ h3⟩

def ok1 (x : I3) : Bool := okI x.1 x.2.1 x.2.2
def eB (x : I3) : Bool := endsI x.1 x.2.1 x.2.2
def gB (x : I3) : Bool := goesI x.1 x.2.1 x.2.2
def gN (x : I3) : Int := goesN x.1 x.2.1 x.2.2
theorem gB_ka {x : I3} (h : gB x = true) : ok1 x = true ∧ (O.rowAt x.1).ka = 10 := by
 have h := of_decide_eq_true h
 cases hk : okI x.1 x.2.1 x.2.2
 ·rw [rowR_no hk] at h; exact absurd h (by decide)
 ·rw [rowR_ok hk] at h; exact ⟨hk, h⟩
theorem gB_in {x : I3} (h : gB x = true) : 0 ≤ x.2.1 ∧ x.2.1 ≤ 511 := by
 obtain ⟨h1, h2⟩ := gB_ka h
 have h3 := (ok_op h1).2.1
 rw [h2] at h3
 exact of_decide_eq_true h3
theorem gN_yes {x : I3} (h : gB x = true) : gN x = x.2.1 := if_pos h
theorem gN_no {x : I3} (h : gB x = false) : gN x = 0 := if_neg (by unfold gB at h; rw [h]; decide)
theorem gN_in (x : I3) : 0 ≤ gN x ∧ gN x ≤ 511 := by
 cases h : gB x
 ·rw [gN_no h]; decide
 ·rw [gN_yes h]; exact gB_in h
def itemB (n : Nat) (x : I3) : Bool := ok1 x && decide (gN x < (n : Int))
def lastB (l : List I3) : Bool := match l.getLast? with | some x => eB x | none => false
def okB (l : List I3) : Bool := decide (l.length ≤ 512) && lastB l && l.all (itemB l.length)
def chkB (l : List I3) : Int := if okB l = true then 0 else 50
theorem chkB_ok {l : List I3} (h : okB l = true) : chkB l = 0 := if_pos h
theorem chkB_no {l : List I3} (h : okB l = false) : chkB l = 50 := if_neg (by rw [h]; decide)
theorem okB_parts {l : List I3} (h : okB l = true) : 1 ≤ l.length ∧ l.length ≤ 512 ∧ lastB l = true ∧ l.all (itemB l.length) = true := by
 unfold okB at h
 simp only [Bool.and_eq_true, decide_eq_true_eq] at h
 refine ⟨?_, h.1.1, h.1.2, h.2⟩
 rcases l with _ | ⟨x, l⟩
 ·exact absurd h.1.2 (by decide)
 ·simp
theorem okB_mk {l : List I3} (h1 : l.length ≤ 512) (h2 : lastB l = true) (h3 : l.all (itemB l.length) = true) : okB l = true := by
 unfold okB; rw [decide_eq_true h1, h2, h3]; rfl
theorem okB_long {l : List I3} (h : ¬ l.length ≤ 512) : okB l = false := by unfold okB; rw [decide_eq_false h]; rfl
theorem okB_last {l : List I3} (h : lastB l = false) : okB l = false := by unfold okB; rw [h]; simp
theorem okB_item {l : List I3} (h : l.all (itemB l.length) = false) : okB l = false := by unfold okB; rw [h]; simp
theorem lastB_at {l : List I3} (h : 0 < l.length) : lastB l = eB (l[l.length - 1]'(by omega)) := by
 unfold lastB
 rw [List.getLast?_eq_getElem?, List.getElem?_eq_getElem (by omega)]
theorem item_parts {n : Nat} {x : I3} (h : itemB n x = true) : ok1 x = true ∧ gN x < (n : Int) := by
 unfold itemB at h
 simp only [Bool.and_eq_true, decide_eq_true_eq] at h
 exact h
theorem item_no1 {n : Nat} {x : I3} (h : ok1 x = false) : itemB n x = false := by unfold itemB; rw [h]; rfl
theorem item_no2 {n : Nat} {x : I3} (h : ¬ gN x < (n : Int)) : itemB n x = false := by unfold itemB; rw [decide_eq_false h]; simp
theorem item_yes {n : Nat} {x : I3} (h1 : ok1 x = true) (h2 : gN x < (n : Int)) : itemB n x = true := by unfold itemB; rw [h1, decide_eq_true h2]; rfl
theorem all_no {n : Nat} {l : List I3} {k : Nat} (hk : k < l.length) (h : itemB n l[k] = false) : l.all (itemB n) = false := by
 rw [List.all_eq_false]; exact ⟨_, List.getElem_mem hk, by rw [h]; decide⟩
theorem okB_at {l : List I3} (h : okB l = true) {k : Nat} (hk : k < l.length) : itemB l.length l[k] = true := List.all_eq_true.1 (okB_parts h).2.2.2 _ (List.getElem_mem hk)

end Go.Proofs.YtghdibbooegocaaGreatDoor.C

namespace Go.Proofs.YtghdibbooegocaaGreatDoor.G
open Go.RowKit

inductive Way (succ : Nat → List Nat) (src : List Nat) : Nat → List Nat → Prop
 | start {a : Nat} : a ∈ src → Way succ src a [a]
 | step {a b : Nat} {l : List Nat} : Way succ src a l → b ∈ succ a → Way succ src b (b :: l)

section
variable {succ : Nat → List Nat} {src : List Nat}
theorem Way.head {a : Nat} {l : List Nat} (h : Way succ src a l) : ∃ r, l = a :: r := by
 cases h with
 | start _ => exact ⟨_, rfl⟩
 | step _ _ => exact ⟨_, rfl⟩
theorem Way.mem {a : Nat} {l : List Nat} (h : Way succ src a l) : a ∈ l := by
 obtain ⟨r, rfl⟩ := h.head
 simp
theorem Way.pos {a : Nat} {l : List Nat} (h : Way succ src a l) : 0 < l.length := by
 obtain ⟨r, rfl⟩ := h.head
 simp
theorem Way.part {a : Nat} {l : List Nat} (h : Way succ src a l) : ∀ y ∈ l, ∃ p q, l = p ++ q ∧ Way succ src y q := by
 induction h with
 | start hs =>
  intro y hy
  rw [List.mem_singleton] at hy
  subst hy
  exact ⟨[], _, rfl, .start hs⟩
 | @step a b l hw hb ih =>
  intro y hy
  rcases List.mem_cons.1 hy with rfl | hy
  ·exact ⟨[], _, rfl, .step hw hb⟩
  ·obtain ⟨p, q, e, h⟩ := ih y hy
   exact ⟨b :: p, q, by rw [e]; rfl, h⟩
/-! ### How far -/

def Dist (succ : Nat → List Nat) (src : List Nat) (ok : Nat → Prop) (a k : Nat) : Prop :=
 (∃ l, Way succ src a l ∧ l.length = k + 1 ∧ ∀ y ∈ l, ok y) ∧ ∀ l, Way succ src a l → (∀ y ∈ l, ok y) → k + 1 ≤ l.length
variable {ok : Nat → Prop}
theorem dist_of {a : Nat} {l : List Nat} (h : Way succ src a l) (ho : ∀ y ∈ l, ok y) : ∃ k, Dist succ src ok a k ∧ k + 1 ≤ l.length := by
 have key : ∀ n, (∃ l, Way succ src a l ∧ (∀ y ∈ l, ok y) ∧ l.length ≤ n) → ∃ k, Dist succ src ok a k ∧ k + 1 ≤ n := by
  intro n
  induction n with
  | zero =>
   rintro ⟨l, h, _, hl⟩
   have := h.pos
   omega
  | succ n ih =>
   rintro ⟨l, h, ho, hl⟩
   by_cases hs : ∃ l, Way succ src a l ∧ (∀ y ∈ l, ok y) ∧ l.length ≤ n
   ·obtain ⟨k, hk, hk2⟩ := ih hs
    exact ⟨k, hk, by omega⟩
   ·have hp := h.pos
    refine ⟨l.length - 1, ⟨⟨l, h, by omega, ho⟩, fun l' h' ho' => ?_⟩, by omega⟩
    rcases Nat.lt_or_ge n l'.length with hh | hh
    ·omega
    ·exact absurd ⟨l', h', ho', hh⟩ hs
 exact key l.length ⟨l, h, ho, Nat.le_refl _⟩
theorem dist_one {a k k' : Nat} (h : Dist succ src ok a k) (h' : Dist succ src ok a k') : k = k' := by
 obtain ⟨⟨l, w, e, o⟩, m⟩ := h
 obtain ⟨⟨l', w', e', o'⟩, m'⟩ := h'
 have h1 := m l' w' o'
 have h2 := m' l w o
 omega
theorem dist_ok {a k : Nat} (h : Dist succ src ok a k) : ok a := by
 obtain ⟨⟨l, w, _, o⟩, _⟩ := h
 exact o a w.mem
theorem dist_zero {a : Nat} : Dist succ src ok a 0 ↔ a ∈ src ∧ ok a := by
 constructor
 ·intro h
  refine ⟨?_, dist_ok h⟩
  obtain ⟨⟨l, w, e, _⟩, _⟩ := h
  cases w with
  | start hs => exact hs
  | step hw _ =>
   have := hw.pos
   simp at e
   rw [e] at this
   exact absurd this (by decide)
 ·rintro ⟨hs, ho⟩
  exact ⟨⟨[a], .start hs, rfl, fun y hy => by rw [List.mem_singleton] at hy; subst hy; exact ho⟩, fun l w _ => w.pos⟩
theorem dist_back {b k : Nat} (h : Dist succ src ok b (k + 1)) : ∃ a, Dist succ src ok a k ∧ b ∈ succ a := by
 obtain ⟨⟨l, w, e, o⟩, m⟩ := h
 cases w with
 | start _ => simp at e
 | @step a _ l hw hb =>
  have e' : l.length = k + 1 := by simpa using e
  refine ⟨a, ⟨⟨l, hw, e', fun y hy => o y (by simp [hy])⟩, fun l' w' o' => ?_⟩, hb⟩
  have := m (b :: l') (.step w' hb) (fun y hy => by
   rcases List.mem_cons.1 hy with rfl | hy
   ·exact o y (by simp)
   ·exact o' y hy)
  simpa using this
theorem dist_next {a b k : Nat} (h : Dist succ src ok a k) (hb : b ∈ succ a) (ho : ok b) : ∃ j, Dist succ src ok b j ∧ j ≤ k + 1 := by
 obtain ⟨⟨l, w, e, o⟩, _⟩ := h
 obtain ⟨j, hj, hj2⟩ := dist_of (ok := ok) (.step w hb) (fun y hy => by
  rcases List.mem_cons.1 hy with rfl | hy
  ·exact ho
  ·exact o y hy)
 refine ⟨j, hj, ?_⟩
 rw [List.length_cons, e] at hj2
 omega
theorem nodup_len : ∀ (n : Nat) (l : List Nat), l.Nodup → (∀ x ∈ l, x < n) → l.length ≤ n
 | 0, l, _, h => by
  cases l with
  | nil => exact Nat.le_refl _
  | cons x l => exact absurd (h x (by simp)) (Nat.not_lt_zero _)
 | n + 1, l, hd, h => by
  have h1 : (l.erase n).length ≤ n := nodup_len n (l.erase n) (hd.sublist List.erase_sublist) fun x hx => by
   have h2 := (List.Nodup.mem_erase_iff hd).1 hx
   have := h x h2.2
   omega
  by_cases hm : n ∈ l
  ·rw [List.length_erase_of_mem hm] at h1
   omega
  ·rw [List.erase_of_not_mem hm] at h1
   omega
theorem dist_nodup {a : Nat} : ∀ (l : List Nat), Way succ src a l → (∀ y ∈ l, ok y) → (∀ l', Way succ src a l' → (∀ y ∈ l', ok y) → l.length ≤ l'.length) → l.Nodup := by
 intro l h
 induction h with
 | start _ => intro _ _; simp
 | @step a b l hw hb ih =>
  intro ho hm
  have h1 : l.Nodup := ih (fun y hy => ho y (by simp [hy])) fun l' w' o' => by
   have := hm (b :: l') (.step w' hb) (fun y hy => by
    rcases List.mem_cons.1 hy with rfl | hy
    ·exact ho y (by simp)
    ·exact o' y hy)
   simpa using this
  refine List.nodup_cons.2 ⟨fun hmem => ?_, h1⟩
  obtain ⟨p, q, e, hq⟩ := hw.part b hmem
  have := hm q hq (fun y hy => ho y (by rw [e]; simp [hy]))
  rw [e] at this
  simp at this
  omega
theorem dist_lt {n a k : Nat} (hn : ∀ y, ok y → y < n) (h : Dist succ src ok a k) : k < n := by
 obtain ⟨⟨l, w, e, o⟩, m⟩ := h
 have h1 := dist_nodup l w o fun l' w' o' => by rw [e]; exact m l' w' o'
 have h2 := nodup_len n l h1 fun x hx => hn x (o x hx)
 omega
end

/-! ### What each way has -/

def Must (succ : Nat → List Nat) (src : List Nat) (a y : Nat) : Prop := ∀ l, Way succ src a l → y ∈ l
section
variable {succ : Nat → List Nat} {s : Nat}
theorem must_self (a : Nat) : Must succ [s] a a := fun _ h => h.mem
theorem must_start (a : Nat) : Must succ [s] a s := by
 intro l h
 induction h with
 | start hs => rw [List.mem_singleton] at hs; subst hs; simp
 | step _ _ ih => exact List.mem_cons_of_mem _ ih
theorem must_trans {a x y : Nat} (hx : Must succ [s] a x) (hy : Must succ [s] x y) : Must succ [s] a y := by
 intro l h
 obtain ⟨p, q, e, hq⟩ := h.part x (hx l h)
 rw [e]
 exact List.mem_append_right _ (hy q hq)
theorem must_near {ok : Nat → Prop} {a x d k : Nat} (hx : Must succ [s] a x) (hd : Dist succ [s] ok x d) (hk : Dist succ [s] ok a k) : d ≤ k := by
 obtain ⟨⟨l, w, e, o⟩, _⟩ := hk
 obtain ⟨p, q, e2, hq⟩ := w.part x (hx l w)
 have := hd.2 q hq (fun y hy => o y (by rw [e2]; simp [hy]))
 rw [e2] at e
 simp at e
 omega
theorem must_ahead {a y : Nat} (ha : a ≠ s) (hy : y ≠ a) : Must succ [s] a y ↔ ∀ x, (∃ l, Way succ [s] x l) → a ∈ succ x → Must succ [s] x y := by
 constructor
 ·intro h x _ hb l hl
  have := h (a :: l) (.step hl hb)
  rcases List.mem_cons.1 this with e | e
  ·exact absurd e hy
  ·exact e
 ·intro h l hl
  cases hl with
  | start hs => rw [List.mem_singleton] at hs; exact absurd hs ha
  | step hw hb => exact List.mem_cons_of_mem _ (h _ ⟨_, hw⟩ hb _ hw)
theorem must_iff {a y : Nat} : ¬ Must succ [s] a y ↔ ∃ l, Way succ [s] a l ∧ ∀ z ∈ l, z ≠ y := by
 constructor
 ·intro h
  unfold Must at h
  obtain ⟨l, h2⟩ := Classical.not_forall.1 h
  obtain ⟨hw, hn⟩ := Classical.not_imp.1 h2
  exact ⟨l, hw, fun z hz e => hn (e ▸ hz)⟩
 ·rintro ⟨l, hw, h⟩ hm
  exact h y (hm l hw) rfl
theorem back_next {a : Nat} {l : List Nat} (h : Way succ (succ a) a l) : ∃ x ∈ succ a, ∃ l', Way succ (succ x) x l' := by
 have key : ∀ (b : Nat) (l : List Nat), Way succ (succ a) b l → ∃ x ∈ succ a, b = x ∨ ∃ l', Way succ (succ x) b l' := by
  intro b l h
  induction h with
  | @start b hs => exact ⟨b, hs, .inl rfl⟩
  | @step c b l hw hb ih =>
   obtain ⟨x, hx, h⟩ := ih
   refine ⟨x, hx, .inr ?_⟩
   rcases h with rfl | ⟨l', h⟩
   ·exact ⟨[b], .start hb⟩
   ·exact ⟨_, .step h hb⟩
 obtain ⟨x, hx, h⟩ := key a l h
 refine ⟨x, hx, ?_⟩
 rcases h with rfl | ⟨l', h⟩
 ·exact ⟨_, h⟩
 ·exact ⟨_, .step h hx⟩
end
end Go.Proofs.YtghdibbooegocaaGreatDoor.G

namespace Go.Proofs.YtghdibbooegocaaGreatDoor.G
open Go.RowKit

section
variable (succ : Nat → List Nat) (w : Int)
def visit (s : Nat) : List Nat → List Int × List Nat → List Int × List Nat
 | [], st => st
 | x :: r, st => if (x : Int) = w ∨ 0 ≤ st.1.getD x (-1) then visit s r st else visit s r (st.1.set x (s : Int), st.2 ++ succ x)
def rounds : Nat → Nat → List Nat → List Int → List Int
 | 0, _, _, far => far
 | f + 1, s, now, far => rounds f (s + 1) (visit succ w s now (far, [])).2 (visit succ w s now (far, [])).1
def farL (n : Nat) (src : List Nat) : List Int := rounds succ w (n + 1) 0 src (List.replicate n (-1))
end

section
variable {succ : Nat → List Nat} {w : Int}
theorem visit_len (s : Nat) : ∀ (l : List Nat) (st : List Int × List Nat), (visit succ w s l st).1.length = st.1.length
 | [], _ => rfl
 | x :: r, st => by
  rw [visit]
  split
  ·exact visit_len s r st
  ·rw [visit_len s r]; simp
theorem visit_far (s : Nat) : ∀ (l : List Nat) (st : List Int × List Nat), (∀ x ∈ l, x < st.1.length) →
  (∀ a, (visit succ w s l st).1.getD a (-1) = if st.1.getD a (-1) < 0 ∧ a ∈ l ∧ (a : Int) ≠ w then (s : Int) else st.1.getD a (-1)) ∧
  (∀ a, a ∈ (visit succ w s l st).2 ↔ a ∈ st.2 ∨ ∃ x ∈ l, (x : Int) ≠ w ∧ st.1.getD x (-1) < 0 ∧ a ∈ succ x)
 | [], st, _ => by
  refine ⟨fun a => ?_, fun a => ?_⟩
  ·rw [visit, if_neg (by simp)]
  ·rw [visit]; simp
 | x :: r, st, h => by
  have hx := h x (by simp)
  rw [visit]
  by_cases hc : (x : Int) = w ∨ 0 ≤ st.1.getD x (-1)
  ·rw [if_pos hc]
   obtain ⟨h1, h2⟩ := visit_far s r st (fun y hy => h y (by simp [hy]))
   refine ⟨fun a => ?_, fun a => ?_⟩
   ·rw [h1 a]
    by_cases ha : a = x
    ·subst ha
     rw [if_neg (by rintro ⟨g1, _, g3⟩; rcases hc with hc | hc; exact g3 hc; omega), if_neg (by rintro ⟨g1, _, g3⟩; rcases hc with hc | hc; exact g3 hc; omega)]
    ·have e : (a ∈ x :: r) ↔ a ∈ r := by rw [List.mem_cons]; exact ⟨fun h => h.resolve_left ha, .inr⟩
     simp only [e]
   ·rw [h2 a]
    constructor
    ·rintro (h | ⟨y, hy, g⟩)
     ·exact .inl h
     ·exact .inr ⟨y, by simp [hy], g⟩
    ·rintro (h | ⟨y, hy, g1, g2, g3⟩)
     ·exact .inl h
     ·rcases List.mem_cons.1 hy with rfl | hy
      ·rcases hc with hc | hc
       ·exact absurd hc g1
       ·omega
      ·exact .inr ⟨y, hy, g1, g2, g3⟩
  ·rw [if_neg hc]
   have hc1 : (x : Int) ≠ w := fun e => hc (.inl e)
   have hc2 : st.1.getD x (-1) < 0 := by
    rcases Int.lt_or_le (st.1.getD x (-1)) 0 with h | h
    ·exact h
    ·exact absurd (.inr h) hc
   obtain ⟨h1, h2⟩ := visit_far s r (st.1.set x (s : Int), st.2 ++ succ x) (fun y hy => by rw [List.length_set]; exact h y (by simp [hy]))
   have hget : ∀ a, (st.1.set x (s : Int)).getD a (-1) = if a = x then (s : Int) else st.1.getD a (-1) := by
    intro a
    rw [List.getD_eq_getElem?_getD, List.getD_eq_getElem?_getD, List.getElem?_set]
    by_cases e : x = a
    ·subst e; rw [if_pos rfl, if_pos hx, if_pos rfl]; rfl
    ·rw [if_neg e, if_neg (fun h => e h.symm)]
   refine ⟨fun a => ?_, fun a => ?_⟩
   ·rw [h1 a]
    dsimp only
    rw [hget a]
    by_cases ha : a = x
    ·subst ha
     rw [if_pos rfl, if_neg (by rintro ⟨g, _⟩; omega), if_pos ⟨hc2, by simp, hc1⟩]
    ·rw [if_neg ha]
     have e : (a ∈ x :: r) ↔ a ∈ r := by rw [List.mem_cons]; exact ⟨fun h => h.resolve_left ha, .inr⟩
     simp only [e]
   ·rw [h2 a]
    dsimp only
    rw [List.mem_append]
    constructor
    ·rintro ((h | h) | ⟨y, hy, g1, g2, g3⟩)
     ·exact .inl h
     ·exact .inr ⟨x, by simp, hc1, hc2, h⟩
     ·rw [hget y] at g2
      by_cases e : y = x
      ·rw [if_pos e] at g2; omega
      ·rw [if_neg e] at g2; exact .inr ⟨y, by simp [hy], g1, g2, g3⟩
    ·rintro (h | ⟨y, hy, g1, g2, g3⟩)
     ·exact .inl (.inl h)
     ·by_cases e : y = x
      ·subst e; exact .inl (.inr g3)
      ·rcases List.mem_cons.1 hy with hy | hy
       ·exact absurd hy e
       ·exact .inr ⟨y, hy, g1, by rw [hget y, if_neg e]; exact g2, g3⟩
end

section
variable {succ : Nat → List Nat} {w : Int} {n : Nat} {src : List Nat}
def OkN (n : Nat) (w : Int) (a : Nat) : Prop := a < n ∧ (a : Int) ≠ w
structure RInv (succ : Nat → List Nat) (w : Int) (n : Nat) (src : List Nat) (s : Nat) (now : List Nat) (far : List Int) : Prop where
 len : far.length = n
 inn : ∀ a ∈ now, a < n
 fr : ∀ a k : Nat, a < n → (far.getD a (-1) = (k : Int) ↔ k < s ∧ Dist succ src (OkN n w) a k)
 neg : ∀ a : Nat, far.getD a (-1) < 0 → far.getD a (-1) = -1
 zer : s = 0 → now = src
 nxt : ∀ t, s = t + 1 → ∀ a, a ∈ now ↔ ∃ x, Dist succ src (OkN n w) x t ∧ a ∈ succ x
variable (hsrc : ∀ a ∈ src, a < n) (hsucc : ∀ x a, x < n → a ∈ succ x → a < n)
include hsrc in
theorem rinv_start : RInv succ w n src 0 src (List.replicate n (-1)) :=
 ⟨by simp, hsrc, fun a k ha => by
  rw [List.getD_eq_getElem?_getD, List.getElem?_replicate, if_pos ha]
  exact ⟨fun h => by have : (-1 : Int) = (k : Int) := h; omega, fun h => absurd h.1 (Nat.not_lt_zero _)⟩, fun a _ => by
  rw [List.getD_eq_getElem?_getD, List.getElem?_replicate]
  split <;> rfl, fun _ => rfl, (fun t h => nomatch h)⟩
include hsucc in
theorem rinv_step {s : Nat} {now : List Nat} {far : List Int} (h : RInv succ w n src s now far) : RInv succ w n src (s + 1) (visit succ w s now (far, [])).2 (visit succ w s now (far, [])).1 := by
 obtain ⟨h1, h2⟩ := visit_far (succ := succ) (w := w) s now (far, []) (fun x hx => by rw [h.len]; exact h.inn x hx)
 dsimp only at h1 h2
 -- what is met now
 have hmet : ∀ a, a < n → (far.getD a (-1) < 0 ∧ a ∈ now ∧ (a : Int) ≠ w ↔ Dist succ src (OkN n w) a s) := by
  intro a ha
  constructor
  ·rintro ⟨g1, g2, g3⟩
   have hj : ∃ j, Dist succ src (OkN n w) a j ∧ j ≤ s := by
    cases s with
    | zero =>
     rw [h.zer rfl] at g2
     exact ⟨0, dist_zero.2 ⟨g2, ha, g3⟩, Nat.le_refl _⟩
    | succ t =>
     obtain ⟨x, hx, hxa⟩ := (h.nxt t rfl a).1 g2
     obtain ⟨j, hj, hj2⟩ := dist_next hx hxa ⟨ha, g3⟩
     exact ⟨j, hj, hj2⟩
   obtain ⟨j, hj, hj2⟩ := hj
   rcases Nat.lt_or_ge j s with hl | hl
   ·have := (h.fr a j ha).2 ⟨hl, hj⟩
    omega
   ·rwa [show s = j by omega]
  ·intro hd
   have ho := dist_ok hd
   refine ⟨?_, ?_, ho.2⟩
   ·rcases Int.lt_or_le (far.getD a (-1)) 0 with hh | hh
    ·exact hh
    ·have e : far.getD a (-1) = (((far.getD a (-1)).toNat : Nat) : Int) := by omega
     obtain ⟨g1, g2⟩ := (h.fr a _ ha).1 e
     have := dist_one g2 hd
     omega
   ·cases s with
    | zero => rw [h.zer rfl]; exact (dist_zero.1 hd).1
    | succ t => exact (h.nxt t rfl a).2 (dist_back hd)
 refine ⟨by rw [visit_len]; exact h.len, fun a ha => ?_, fun a k ha => ?_, fun a ha => ?_, (fun e => nomatch e), fun t e a => ?_⟩
 ·rcases (h2 a).1 ha with g | ⟨x, hx, _, _, g⟩
  ·cases g
  ·exact hsucc x a (h.inn x hx) g
 ·rw [h1 a]
  by_cases hc : far.getD a (-1) < 0 ∧ a ∈ now ∧ (a : Int) ≠ w
  ·rw [if_pos hc]
   have hd := (hmet a ha).1 hc
   constructor
   ·intro e
    have : s = k := by omega
    subst this
    exact ⟨Nat.lt_succ_self _, hd⟩
   ·rintro ⟨_, hk⟩
    rw [dist_one hd hk]
  ·rw [if_neg hc, h.fr a k ha]
   constructor
   ·rintro ⟨g1, g2⟩; exact ⟨by omega, g2⟩
   ·rintro ⟨g1, g2⟩
    refine ⟨?_, g2⟩
    rcases Nat.lt_or_ge k s with hl | hl
    ·exact hl
    ·have : k = s := by omega
     subst this
     exact absurd ((hmet a ha).2 g2) hc
 ·rw [h1 a] at ha ⊢
  split at ha
  ·omega
  ·rename_i hc
   rw [if_neg hc]
   exact h.neg a ha
 ·injection e with e
  subst e
  rw [h2 a]
  constructor
  ·rintro (g | ⟨x, hx, g1, g2, g3⟩)
   ·cases g
   ·exact ⟨x, (hmet x (h.inn x hx)).1 ⟨g2, hx, g1⟩, g3⟩
  ·rintro ⟨x, hx, g⟩
   obtain ⟨g1, g2, g3⟩ := (hmet x (dist_ok hx).1).2 hx
   exact .inr ⟨x, g2, g3, g1, g⟩
include hsucc in
theorem rinv_rounds : ∀ (f s : Nat) (now : List Nat) (far : List Int), RInv succ w n src s now far → ∃ now', RInv succ w n src (s + f) now' (rounds succ w f s now far)
 | 0, s, now, far, h => ⟨now, h⟩
 | f + 1, s, now, far, h => by
  obtain ⟨now', h2⟩ := rinv_rounds f (s + 1) _ _ (rinv_step hsucc h)
  exact ⟨now', by rw [show s + (f + 1) = s + 1 + f by omega]; exact h2⟩
include hsrc hsucc in
theorem far_dist {a : Nat} (ha : a < n) : (∀ k : Nat, (farL succ w n src).getD a (-1) = (k : Int) ↔ Dist succ src (OkN n w) a k) ∧ ((farL succ w n src).getD a (-1) < 0 → (farL succ w n src).getD a (-1) = -1) := by
 obtain ⟨now, h⟩ := rinv_rounds hsucc (n + 1) 0 src _ (rinv_start (succ := succ) (w := w) hsrc)
 refine ⟨fun k => ?_, h.neg a⟩
 unfold farL
 rw [h.fr a k ha]
 exact ⟨fun h => h.2, fun hd => ⟨by have := dist_lt (fun y hy => hy.1) hd; omega, hd⟩⟩
include hsrc hsucc in
theorem far_way {a : Nat} (ha : a < n) : 0 ≤ (farL succ w n src).getD a (-1) ↔ ∃ l, Way succ src a l ∧ ∀ y ∈ l, (y : Int) ≠ w := by
 obtain ⟨h1, _⟩ := far_dist (w := w) hsrc hsucc ha
 have hin : ∀ {a : Nat} {l : List Nat}, Way succ src a l → ∀ y ∈ l, y < n := by
  intro a l h
  induction h with
  | start hs => intro y hy; rw [List.mem_singleton] at hy; subst hy; exact hsrc _ hs
  | step hw hb ih =>
   intro y hy
   rcases List.mem_cons.1 hy with rfl | hy
   ·exact hsucc _ _ (ih _ hw.mem) hb
   ·exact ih y hy
 constructor
 ·intro h
  obtain ⟨⟨l, hw, _, ho⟩, _⟩ := (h1 ((farL succ w n src).getD a (-1)).toNat).1 (by omega)
  exact ⟨l, hw, fun y hy => (ho y hy).2⟩
 ·rintro ⟨l, hw, ho⟩
  obtain ⟨k, hk, _⟩ := dist_of (ok := OkN n w) hw fun y hy => ⟨hin hw y hy, ho y hy⟩
  have := (h1 k).2 hk
  omega
end

end Go.Proofs.YtghdibbooegocaaGreatDoor.G

namespace Go.Proofs.YtghdibbooegocaaGreatDoor.G
open Go.RowKit

def stepsX (x : C.I3) (i : Nat) : List Nat :=
 if C.gB x = true ∧ C.eB x = true then [x.2.1.toNat] else if C.eB x = true then [] else if C.gB x = false ∨ x.2.1.toNat = i + 1 then [i + 1]
 else if x.2.1.toNat < i + 1 then [x.2.1.toNat, i + 1] else [i + 1, x.2.1.toNat]
def stepsG (b : List C.I3) (i : Nat) : List Nat := match b[i]? with
 | some x => stepsX x i
 | none => []
theorem steps_at {b : List C.I3} {i : Nat} {x : C.I3} (h : b[i]? = some x) : stepsG b i = stepsX x i := by unfold stepsG; rw [h]
theorem stepsX_mem {x : C.I3} {i a : Nat} (h : a ∈ stepsX x i) : (a = i + 1 ∧ C.eB x = false) ∨ (C.gB x = true ∧ a = x.2.1.toNat) := by
 unfold stepsX at h
 split at h
 ·rename_i hc
  rw [List.mem_singleton] at h
  exact .inr ⟨hc.1, h⟩
 ·split at h
  ·cases h
  ·rename_i he
   have he : C.eB x = false := by simpa using he
   split at h
   ·rw [List.mem_singleton] at h; exact .inl ⟨h, he⟩
   ·rename_i hg
    have hg : C.gB x = true := by
     cases hgb : C.gB x with
     | true => rfl
     | false => exact absurd (.inl hgb) hg
    split at h
    ·rcases List.mem_cons.1 h with h | h
     ·exact .inr ⟨hg, h⟩
     ·rw [List.mem_singleton] at h; exact .inl ⟨h, he⟩
    ·rcases List.mem_cons.1 h with h | h
     ·exact .inl ⟨h, he⟩
     ·rw [List.mem_singleton] at h; exact .inr ⟨hg, h⟩
theorem stepsX_next {x : C.I3} {i : Nat} (h : C.eB x = false) : i + 1 ∈ stepsX x i := by
 unfold stepsX
 rw [if_neg (by rw [h]; simp), if_neg (by rw [h]; decide)]
 split
 ·simp
 ·split <;> simp
theorem stepsX_to {x : C.I3} {i : Nat} (h : C.gB x = true) : x.2.1.toNat ∈ stepsX x i := by
 unfold stepsX
 split
 ·simp
 ·split
  ·rename_i h1 h2
   exact absurd ⟨h, h2⟩ h1
  ·split
   ·rename_i hc
    rcases hc with hc | hc
    ·rw [h] at hc; cases hc
    ·rw [hc]; simp
   ·split <;> simp
theorem stepsX_rise (x : C.I3) (i : Nat) : (stepsX x i).Pairwise (· < ·) := by
 unfold stepsX
 split
 ·exact List.pairwise_singleton _ _
 ·split
  ·exact List.Pairwise.nil
  ·split
   ·exact List.pairwise_singleton _ _
   ·rename_i hc
    have hne : x.2.1.toNat ≠ i + 1 := fun e => hc (.inr e)
    split
    ·rename_i h
     rw [List.pairwise_cons]
     exact ⟨fun y hy => by rw [List.mem_singleton] at hy; omega, List.pairwise_singleton _ _⟩
    ·rename_i h
     rw [List.pairwise_cons]
     exact ⟨fun y hy => by rw [List.mem_singleton] at hy; omega, List.pairwise_singleton _ _⟩
theorem steps_lt {b : List C.I3} (hb : C.okB b = true) : ∀ i a, i < b.length → a ∈ stepsG b i → a < b.length := by
 intro i a hi h
 rw [steps_at (List.getElem?_eq_getElem hi)] at h
 obtain ⟨h1, _, h3, _⟩ := C.okB_parts hb
 obtain ⟨_, hN⟩ := C.item_parts (C.okB_at hb hi)
 rcases stepsX_mem h with ⟨rfl, he⟩ | ⟨hg, rfl⟩
 ·rw [C.lastB_at (by omega)] at h3
  rcases Nat.lt_or_ge (i + 1) b.length with h | h
  ·exact h
  ·have : i = b.length - 1 := by omega
   subst this
   rw [h3] at he; cases he
 ·rw [C.gN_yes hg] at hN
  have := C.gB_in hg
  omega

/-! ### The lists -/

def farB (b : List C.I3) (w : Int) (src : List Nat) : List Int := farL (stepsG b) w b.length src
def reachL (b : List C.I3) : List Nat := if C.okB b = true then (List.range b.length).filter fun a => decide (0 ≤ (farB b (-1) [0]).getD a (-1)) else []
def aheadL (b : List C.I3) (a : Nat) : List Nat := (reachL b).filter fun x => decide (a ∈ stepsG b x)
def distL (b : List C.I3) (a : Nat) : Int := (farB b (-1) [0]).getD a (-1)
def mustL (b : List C.I3) (a : Nat) : List Nat := (reachL b).filter fun y => decide ((farB b (y : Int) [0]).getD a (-1) < 0)
def loopL (b : List C.I3) : List Nat := (reachL b).filter fun a => decide (0 ≤ (farB b (-1) (stepsG b a)).getD a (-1))
def meetL (b : List C.I3) : List Nat := (reachL b).filter fun a => decide (1 < (aheadL b a).length ∨ ((aheadL b a).length = 1 ∧ a = 0))

section
variable {b : List C.I3} (hb : C.okB b = true)
include hb
theorem body_pos : 0 < b.length := (C.okB_parts hb).1
theorem zero_src : ∀ a ∈ [0], a < b.length := fun a ha => by rw [List.mem_singleton] at ha; subst ha; exact body_pos hb
theorem way_lt {src : List Nat} (hs : ∀ a ∈ src, a < b.length) {a : Nat} {l : List Nat} (h : Way (stepsG b) src a l) : ∀ y ∈ l, y < b.length := by
 induction h with
 | start hs' => intro y hy; rw [List.mem_singleton] at hy; subst hy; exact hs _ hs'
 | step hw hb' ih =>
  intro y hy
  rcases List.mem_cons.1 hy with rfl | hy
  ·exact steps_lt hb _ _ (ih _ hw.mem) hb'
  ·exact ih y hy
omit hb in
theorem no_neg (l : List Nat) : ∀ y ∈ l, (y : Int) ≠ -1 := fun y _ => by omega
theorem reach_iff {a : Nat} : a ∈ reachL b ↔ ∃ l, Way (stepsG b) [0] a l := by
 unfold reachL
 rw [if_pos hb, List.mem_filter, List.mem_range, decide_eq_true_iff]
 constructor
 ·rintro ⟨ha, h⟩
  obtain ⟨l, hw, _⟩ := (far_way (w := -1) (zero_src hb) (steps_lt hb) ha).1 h
  exact ⟨l, hw⟩
 ·rintro ⟨l, hw⟩
  have ha := way_lt hb (zero_src hb) hw a hw.mem
  exact ⟨ha, (far_way (w := -1) (zero_src hb) (steps_lt hb) ha).2 ⟨l, hw, no_neg l⟩⟩
theorem reach_lt {a : Nat} (h : a ∈ reachL b) : a < b.length := by
 obtain ⟨l, hw⟩ := (reach_iff hb).1 h
 exact way_lt hb (zero_src hb) hw a hw.mem
theorem reach_zero : 0 ∈ reachL b := (reach_iff hb).2 ⟨[0], .start (by simp)⟩
theorem reach_next {x a : Nat} (hx : x ∈ reachL b) (ha : a ∈ stepsG b x) : a ∈ reachL b := by
 obtain ⟨l, hw⟩ := (reach_iff hb).1 hx
 exact (reach_iff hb).2 ⟨_, .step hw ha⟩
theorem dist_iff {a k : Nat} (ha : a < b.length) : distL b a = (k : Int) ↔ Dist (stepsG b) [0] (OkN b.length (-1)) a k := (far_dist (w := -1) (zero_src hb) (steps_lt hb) ha).1 k
theorem dist_some {a : Nat} (h : a ∈ reachL b) : ∃ k : Nat, distL b a = (k : Int) ∧ Dist (stepsG b) [0] (OkN b.length (-1)) a k := by
 have ha := reach_lt hb h
 unfold reachL at h
 rw [if_pos hb, List.mem_filter, decide_eq_true_iff] at h
 have h2 : 0 ≤ distL b a := h.2
 refine ⟨(distL b a).toNat, by omega, (dist_iff hb ha).1 (by omega)⟩
theorem dist_step {x a : Nat} (hx : x ∈ reachL b) (ha : a ∈ stepsG b x) : distL b a ≤ distL b x + 1 := by
 obtain ⟨k, hk, hd⟩ := dist_some hb hx
 have hr := reach_next hb hx ha
 have hl := reach_lt hb hr
 obtain ⟨j, hj, hj2⟩ := dist_next hd ha ⟨hl, by omega⟩
 rw [(dist_iff hb hl).2 hj]
 omega
theorem dist_pre {a : Nat} (h : a ∈ reachL b) (h0 : a ≠ 0) : ∃ x ∈ reachL b, a ∈ stepsG b x ∧ distL b x + 1 = distL b a := by
 obtain ⟨k, hk, hd⟩ := dist_some hb h
 cases k with
 | zero =>
  have := (dist_zero.1 hd).1
  rw [List.mem_singleton] at this
  exact absurd this h0
 | succ k =>
  obtain ⟨x, hx, hxa⟩ := dist_back hd
  have hr : x ∈ reachL b := by
   obtain ⟨⟨l, hw, _⟩, _⟩ := hx
   exact (reach_iff hb).2 ⟨l, hw⟩
  refine ⟨x, hr, hxa, ?_⟩
  rw [hk, (dist_iff hb (reach_lt hb hr)).2 hx]
  omega
/-! ### What must be passed -/

theorem must_mem {a y : Nat} (ha : a ∈ reachL b) : y ∈ mustL b a ↔ Must (stepsG b) [0] a y := by
 have hl := reach_lt hb ha
 obtain ⟨l0, hw0⟩ := (reach_iff hb).1 ha
 have hf : (farB b (y : Int) [0]).getD a (-1) < 0 ↔ Must (stepsG b) [0] a y := by
  have h1 := far_way (w := (y : Int)) (zero_src hb) (steps_lt hb) hl
  have h2 : (∃ l, Way (stepsG b) [0] a l ∧ ∀ z ∈ l, (z : Int) ≠ (y : Int)) ↔ ¬ Must (stepsG b) [0] a y := by
   rw [must_iff]
   constructor
   ·rintro ⟨l, hw, h⟩; exact ⟨l, hw, fun z hz e => h z hz (by omega)⟩
   ·rintro ⟨l, hw, h⟩; exact ⟨l, hw, fun z hz e => h z hz (by omega)⟩
  rw [h2] at h1
  constructor
  ·intro h
   exact Classical.byContradiction fun hn => by have := h1.2 hn; show False; unfold farB at h; omega
  ·intro h
   rcases Int.lt_or_le ((farB b (y : Int) [0]).getD a (-1)) 0 with hh | hh
   ·exact hh
   ·exact absurd h (h1.1 hh)
 unfold mustL
 rw [List.mem_filter, decide_eq_true_iff, hf]
 constructor
 ·exact fun h => h.2
 ·intro h
  obtain ⟨_, q, _, hq⟩ := hw0.part y (h l0 hw0)
  exact ⟨(reach_iff hb).2 ⟨q, hq⟩, h⟩
omit hb in
theorem must_reach {a y : Nat} (h : y ∈ mustL b a) : y ∈ reachL b := by unfold mustL at h; exact (List.mem_filter.1 h).1
theorem must_dist {a x : Nat} (ha : a ∈ reachL b) (hx : x ∈ mustL b a) : distL b x ≤ distL b a := by
 have hm := (must_mem hb ha).1 hx
 obtain ⟨k, hk, hd⟩ := dist_some hb ha
 obtain ⟨j, hj, hd2⟩ := dist_some hb (must_reach hx)
 have := must_near hm hd2 hd
 omega
omit hb in
theorem ahead_mem {a x : Nat} : x ∈ aheadL b a ↔ x ∈ reachL b ∧ a ∈ stepsG b x := by unfold aheadL; rw [List.mem_filter, decide_eq_true_iff]
theorem must_aheadL {a y : Nat} (ha : a ∈ reachL b) (h0 : a ≠ 0) (hy : y ≠ a) : y ∈ mustL b a ↔ ∀ x ∈ aheadL b a, y ∈ mustL b x := by
 rw [must_mem hb ha, must_ahead h0 hy]
 constructor
 ·intro h x hx
  obtain ⟨h1, h2⟩ := (ahead_mem).1 hx
  exact (must_mem hb h1).2 (h x ((reach_iff hb).1 h1) h2)
 ·intro h x hx hs
  have h1 := (reach_iff hb).2 hx
  exact (must_mem hb h1).1 (h x ((ahead_mem).2 ⟨h1, hs⟩))

/-! ### What is come back to -/

theorem loop_mem {a : Nat} : a ∈ loopL b ↔ a ∈ reachL b ∧ ∃ l, Way (stepsG b) (stepsG b a) a l := by
 unfold loopL
 rw [List.mem_filter, decide_eq_true_iff]
 refine and_congr_right fun ha => ?_
 have hl := reach_lt hb ha
 have h := far_way (w := -1) (src := stepsG b a) (fun x hx => steps_lt hb a x hl hx) (steps_lt hb) hl
 constructor
 ·intro h1
  obtain ⟨l, hw, _⟩ := h.1 h1
  exact ⟨l, hw⟩
 ·rintro ⟨l, hw⟩
  exact h.2 ⟨l, hw, no_neg l⟩
theorem loop_next {a : Nat} (h : a ∈ loopL b) : ∃ x ∈ stepsG b a, x ∈ loopL b := by
 obtain ⟨hr, l, hw⟩ := (loop_mem hb).1 h
 obtain ⟨x, hx, h2⟩ := back_next hw
 exact ⟨x, hx, (loop_mem hb).2 ⟨reach_next hb hr hx, h2⟩⟩
theorem loop_forward {a : Nat} {x : C.I3} (ha : a ∈ reachL b) (hx : b[a]? = some x) (hg : C.gB x = true) (ht : x.2.1 ≤ (a : Int)) (hn : ∀ i y, x.2.1.toNat ≤ i → i < a → b[i]? = some y → C.eB y = false) : a ∈ loopL b := by
 refine (loop_mem hb).2 ⟨ha, ?_⟩
 have hl := reach_lt hb ha
 have hin := C.gB_in hg
 have hto : x.2.1.toNat ∈ stepsG b a := by rw [steps_at hx]; exact stepsX_to hg
 have key : ∀ d, x.2.1.toNat + d ≤ a → ∃ l, Way (stepsG b) (stepsG b a) (x.2.1.toNat + d) l := by
  intro d
  induction d with
  | zero => intro _; exact ⟨_, .start hto⟩
  | succ d ih =>
   intro hd
   obtain ⟨l, hw⟩ := ih (by omega)
   have hlt : x.2.1.toNat + d < b.length := by omega
   have he := hn (x.2.1.toNat + d) _ (by omega) (by omega) (List.getElem?_eq_getElem hlt)
   refine ⟨_, .step hw ?_⟩
   rw [steps_at (List.getElem?_eq_getElem hlt)]
   exact stepsX_next he
 obtain ⟨l, hw⟩ := key (a - x.2.1.toNat) (by omega)
 rw [show x.2.1.toNat + (a - x.2.1.toNat) = a by omega] at hw
 exact ⟨l, hw⟩
end
theorem meet_mem {b : List C.I3} {a : Nat} : a ∈ meetL b ↔ a ∈ reachL b ∧ (1 < (aheadL b a).length ∨ ((aheadL b a).length = 1 ∧ a = 0)) := by unfold meetL; rw [List.mem_filter, decide_eq_true_iff]
theorem rise_filter {b : List C.I3} : (reachL b).Pairwise (· < ·) := by
 unfold reachL
 split
 ·exact List.Pairwise.filter _ List.pairwise_lt_range
 ·exact List.Pairwise.nil

end Go.Proofs.YtghdibbooegocaaGreatDoor.G
