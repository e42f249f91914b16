/-
  What rowFor answers. No conditions.
-/
import Derived.Test.YtpkcjokkadfhcaaDoorORow
namespace Go.Proofs.YtpkcjokkadfhcaaDoor.O
open Go.RowKit

/-- An instruction as a value. -/
abbrev instV (op a b : Int) : Value := .agg #[.int .i64 op, .int .i64 a, .int .i64 b]
/-- The row of an instruction, if that may be. -/
def rowR (op a b : Int) : Row := if okI op a b = true then rowAt op else row0
theorem rowR_ok {op a b : Int} (h : okI op a b = true) : rowR op a b = rowAt op := by unfold rowR; rw [if_pos h]
theorem rowR_no {op a b : Int} (h : okI op a b = false) : rowR op a b = row0 := by unfold rowR; rw [if_neg (by rw [h]; decide)]
theorem kinds_ok (op : Int) : 0 ≤ (rowAt op).ka ∧ (rowAt op).ka ≤ 10 ∧ 0 ≤ (rowAt op).kb ∧ (rowAt op).kb ≤ 10 := by
  have := rowAt_all (p := fun r => decide (0 ≤ r.ka ∧ r.ka ≤ 10 ∧ 0 ≤ r.kb ∧ r.kb ≤ 10)) (by decide) (by decide) op
  simpa using this

theorem has_gen (k n : Int) (v : Value) (t : Bool) (w : World) (ht : inK k n = t) (hv : ∃ sh gu, v = opV k sh gu) :
    Calls Tryd.prog 24 #[v, .int .i64 n] w fun e w' => e = .returned (.bool t) ∧ Keep NoB w w' := by
  subst ht; exact has_any k n v w hv
theorem op_gen (k : Int) (hk : 0 ≤ k ∧ k ≤ 10) (w : World) :
    Calls Tryd.prog 23 #[.int .i64 k] w fun e w' => ∃ u, e = .returned u ∧ (∃ sh gu, u = opV k sh gu) ∧ Keep NoB w w' :=
  (operandOf_any k hk w).mono fun _ _ ⟨sh, gu, he, _, hk⟩ => ⟨_, he, ⟨sh, gu, rfl⟩, hk⟩
abbrev cells9 (q : Row) : Array Value := #[.string (str q.name), .int .i64 q.ka, .int .i64 q.kb, .int .i64 q.ta, .int .i64 q.tb, .int .i64 q.la, .int .i64 q.lb, .bool q.hop, .bool q.fin]

/-- What rowFor answers. -/
def ForR (q : Row) (t : Bool) (w : World) (e : Ending) (w' : World) : Prop := e = .returned (.tuple #[rowV q, .bool t]) ∧ Keep NoB w w'

set_option maxRecDepth 100000 in
set_option maxHeartbeats 1000000 in
theorem rowFor_a (op a b : Int) (q : Row) (w : World) (HQ : Hid (rowAt op = q)) (HI : Hid (isOp op = false)) :
    Calls Tryd.prog 17 #[instV op a b] w (ForR row0 false w) := by
  go_enter Tryd.func17, Tryd.ntmps17
  go_wp2_with fail
  refine (rowOf_any op q _ HQ).mono ?_
  rw [HI.out]
  rintro e w1 ⟨rfl, k1⟩
  have bx := ((Blk.new w 23 #[.int .i64 op, .int .i64 a, .int .i64 b]).alloc (.cells rowZ 44)).keep k1 id
  have br := (Blk.new (w.alloc (.cells #[.int .i64 op, .int .i64 a, .int .i64 b] 23)) 44 rowZ).keep k1 id
  rw [World.size_alloc] at br
  have hK := keepN (((Keep.refl NoB w).alloc _).alloc _) k1
  have hz := br.lt
  go_wp2_with fail
  have b2 := Blk.new w1 44 #[.string (str q.name), .int .i64 q.ka, .int .i64 q.kb, .int .i64 q.ta, .int .i64 q.tb, .int .i64 q.la, .int .i64 q.lb, .bool q.hop, .bool q.fin]
  have bx2 := bx.alloc (.cells #[.string (str q.name), .int .i64 q.ka, .int .i64 q.kb, .int .i64 q.ta, .int .i64 q.tb, .int .i64 q.la, .int .i64 q.lb, .bool q.hop, .bool q.fin] 44)
  have br2 := br.alloc (.cells #[.string (str q.name), .int .i64 q.ka, .int .i64 q.kb, .int .i64 q.ta, .int .i64 q.tb, .int .i64 q.la, .int .i64 q.lb, .bool q.hop, .bool q.fin] 44)
  have hK2 := hK.alloc (.cells #[.string (str q.name), .int .i64 q.ka, .int .i64 q.kb, .int .i64 q.ta, .int .i64 q.tb, .int .i64 q.la, .int .i64 q.lb, .bool q.hop, .bool q.fin] 44)
  obtain ⟨w2, hw2⟩ : ∃ w2, w1.alloc (.cells #[.string (str q.name), .int .i64 q.ka, .int .i64 q.kb, .int .i64 q.ta, .int .i64 q.tb, .int .i64 q.la, .int .i64 q.lb, .bool q.hop, .bool q.fin] 44) = w2 := ⟨_, rfl⟩
  rw [hw2] at b2 bx2 br2 hK2
  have HW := Lib.hid hw2
  rw [hw2]
  clear hw2 bx br hK k1
  · refine wp_region_sh ((0, false) :: (1, false) :: (2, false) :: (3, false) :: (4, false) :: (5, false) :: (7, false) :: (8, false) :: (6, true) :: (9, false) :: (10, false) :: (11, false) :: (12, false) :: (13, false) :: (14, false) :: (15, false) :: (17, false) :: (18, false) :: (16, true) :: (19, false) :: (20, false) :: (21, false) :: []) (fun w' => Keep NoB w2 w') (by kernel_rfl) (by kernel_rfl) (by rfl) (by kernel_rfl) (stable_keep w2) (Keep.refl NoB w2).drew ?_
    refine shM_step rfl rfl rfl (by rfl) (by rfl) ?_
    apply Exists.intro
    refine ⟨fun n K hK => ?_, ?_, ?_⟩
    · go_big_quiet_op
      exact hK _ rfl
    · kernel_rfl
    refine shM_step rfl rfl rfl (by rfl) (by rfl) ?_
    apply Exists.intro
    refine ⟨fun n K hK => ?_, ?_, ?_⟩
    · go_big_quiet_op
      exact hK _ rfl
    · kernel_rfl
    refine shM_step rfl rfl rfl (by rfl) (by rfl) ?_
    apply Exists.intro
    refine ⟨fun n K hK => ?_, ?_, ?_⟩
    · go_big_quiet_op
      exact hK _ rfl
    · kernel_rfl
    refine shM_skip rfl (by kernel_rfl) (by kernel_rfl) ?_
    refine shM_skip rfl (by kernel_rfl) (by kernel_rfl) ?_
    refine shM_skip rfl (by kernel_rfl) (by kernel_rfl) ?_
    refine shM_skip rfl (by kernel_rfl) (by kernel_rfl) ?_
    refine shM_skip rfl (by kernel_rfl) (by kernel_rfl) ?_
    refine shM_skip rfl (by kernel_rfl) (by kernel_rfl) ?_
    refine shM_skip rfl (by kernel_rfl) (by kernel_rfl) ?_
    refine shM_skip rfl (by kernel_rfl) (by kernel_rfl) ?_
    refine shM_step rfl rfl rfl (by rfl) (by rfl) ?_
    apply Exists.intro
    refine ⟨fun n K hK => ?_, ?_, ?_⟩
    · go_big_quiet_op
      exact hK _ rfl
    · kernel_rfl
    refine shM_step rfl rfl rfl (by rfl) (by rfl) ?_
    apply Exists.intro
    refine ⟨fun n K hK => ?_, ?_, ?_⟩
    · go_big_quiet_op
      exact hK _ rfl
    · kernel_rfl
    refine shM_skip rfl (by kernel_rfl) (by kernel_rfl) ?_
    refine shM_skip rfl (by kernel_rfl) (by kernel_rfl) ?_
    refine shM_skip rfl (by kernel_rfl) (by kernel_rfl) ?_
    refine shM_skip rfl (by kernel_rfl) (by kernel_rfl) ?_
    refine shM_skip rfl (by kernel_rfl) (by kernel_rfl) ?_
    refine shM_skip rfl (by kernel_rfl) (by kernel_rfl) ?_
    refine shM_skip rfl (by kernel_rfl) (by kernel_rfl) ?_
    refine shM_skip rfl (by kernel_rfl) (by kernel_rfl) ?_
    refine shM_step rfl rfl rfl (by rfl) (by rfl) ?_
    apply Exists.intro
    refine ⟨fun n K hK => ?_, ?_, ?_⟩
    · go_big_quiet_op
      exact hK _ rfl
    · kernel_rfl
    refine shM_nil (fun n => ?_)
    have k3 := n.has
    generalize n.w = w3 at k3 ⊢
    have b3 := b2.keep k3 id
    have br3 := br2.keep k3 id
    have hK3 := keepN hK2 k3
    have f0 := fun i => br3.frozen i
    obtain ⟨c0, c1, c2, c3, c4, c5, c6, c7, c8⟩ := blk9 br3
    have hz3 := br3.lt
    clear k3 b2 br2 hK2 bx2
    go_wp2
    exact bodyPost_ret (v := .tuple #[rowV row0, .bool false]) (by simp [results, Tryd.results17, go_sem, c0, c1, c2, c3, c4, c5, c6, c7, c8, row0]) rfl ⟨rfl, keep9 hK3 (Nat.le_succ _) _ _ _ _ _ _ _ _ _⟩

set_option maxRecDepth 100000 in
set_option maxHeartbeats 1000000 in
theorem rowFor_b (op a b : Int) (q : Row) (w : World) (HQ : Hid (rowAt op = q)) (HI : Hid (isOp op = true)) (HA : Hid (inK q.ka a = false)) (hka : 0 ≤ q.ka ∧ q.ka ≤ 10) :
    Calls Tryd.prog 17 #[instV op a b] w (ForR row0 false w) := by
  go_enter Tryd.func17, Tryd.ntmps17
  go_wp2_with fail
  refine (rowOf_any op q _ HQ).mono ?_
  rw [HI.out]
  rintro e w1 ⟨rfl, k1⟩
  have bx := ((Blk.new w 23 #[.int .i64 op, .int .i64 a, .int .i64 b]).alloc (.cells rowZ 44)).keep k1 id
  have br := (Blk.new (w.alloc (.cells #[.int .i64 op, .int .i64 a, .int .i64 b] 23)) 44 rowZ).keep k1 id
  rw [World.size_alloc] at br
  have hK := keepN (((Keep.refl NoB w).alloc _).alloc _) k1
  have hz := br.lt
  go_wp2_with fail
  have b2 := Blk.new w1 44 #[.string (str q.name), .int .i64 q.ka, .int .i64 q.kb, .int .i64 q.ta, .int .i64 q.tb, .int .i64 q.la, .int .i64 q.lb, .bool q.hop, .bool q.fin]
  have bx2 := bx.alloc (.cells #[.string (str q.name), .int .i64 q.ka, .int .i64 q.kb, .int .i64 q.ta, .int .i64 q.tb, .int .i64 q.la, .int .i64 q.lb, .bool q.hop, .bool q.fin] 44)
  have br2 := br.alloc (.cells #[.string (str q.name), .int .i64 q.ka, .int .i64 q.kb, .int .i64 q.ta, .int .i64 q.tb, .int .i64 q.la, .int .i64 q.lb, .bool q.hop, .bool q.fin] 44)
  have hK2 := hK.alloc (.cells #[.string (str q.name), .int .i64 q.ka, .int .i64 q.kb, .int .i64 q.ta, .int .i64 q.tb, .int .i64 q.la, .int .i64 q.lb, .bool q.hop, .bool q.fin] 44)
  obtain ⟨w2, hw2⟩ : ∃ w2, w1.alloc (.cells #[.string (str q.name), .int .i64 q.ka, .int .i64 q.kb, .int .i64 q.ta, .int .i64 q.tb, .int .i64 q.la, .int .i64 q.lb, .bool q.hop, .bool q.fin] 44) = w2 := ⟨_, rfl⟩
  rw [hw2] at b2 bx2 br2 hK2
  have HW := Lib.hid hw2
  rw [hw2]
  clear hw2 bx br hK k1
  · refine wp_region_sh ((0, false) :: (1, false) :: (2, false) :: (3, false) :: (4, false) :: (5, false) :: (7, false) :: (8, false) :: (6, true) :: (9, false) :: (10, false) :: (11, false) :: (12, false) :: (13, false) :: (14, false) :: (15, false) :: (17, false) :: (18, false) :: (16, true) :: (19, false) :: (20, false) :: (21, false) :: []) (fun w' => Keep NoB w2 w') (by kernel_rfl) (by kernel_rfl) (by rfl) (by kernel_rfl) (stable_keep w2) (Keep.refl NoB w2).drew ?_
    refine shM_step rfl rfl rfl (by rfl) (by rfl) ?_
    apply Exists.intro
    refine ⟨fun n K hK => ?_, ?_, ?_⟩
    · go_big_quiet_op
      exact hK _ rfl
    · kernel_rfl
    refine shM_step rfl rfl rfl (by rfl) (by rfl) ?_
    apply Exists.intro
    refine ⟨fun n K hK => ?_, ?_, ?_⟩
    · go_big_quiet_op
      exact hK _ rfl
    · kernel_rfl
    refine shM_step rfl rfl rfl (by rfl) (by rfl) ?_
    apply Exists.intro
    refine ⟨fun n K hK => ?_, ?_, ?_⟩
    · go_big_quiet_op
      exact hK _ rfl
    · kernel_rfl
    refine shM_step rfl rfl rfl (by rfl) (by rfl) ?_
    apply Exists.intro
    refine ⟨fun n K hK => ?_, ?_, ?_⟩
    · go_big_quiet_op
      exact hK _ rfl
    · kernel_rfl
    refine shM_step rfl rfl rfl (by rfl) (by rfl) ?_
    apply Exists.intro
    refine ⟨fun n K hK => ?_, ?_, ?_⟩
    · go_big_quiet_op
      exact hK _ rfl
    · kernel_rfl
    refine shM_step rfl rfl rfl (by rfl) (by rfl) ?_
    apply Exists.intro
    refine ⟨fun n K hK => ?_, ?_, ?_⟩
    · have q1 : ∀ m : KW n.w, m.w.cell? ⟨w1.heap.size, 1, none⟩ = some (.int .i64 q.ka) := fun m => (b2.keep (keepN n.has m.keep) id).cell 1
      go_big_quiet_op
      exact hK _ rfl
    · kernel_rfl
    refine shM_step rfl rfl rfl (by rfl) (by rfl) ?_
    apply Exists.intro
    refine ⟨fun n K hK => ?_, ?_, ?_⟩
    · go_big_quiet_op
      exact hK _ rfl
    · kernel_rfl
    refine shM_step rfl rfl rfl (by rfl) (by rfl) ?_
    apply Exists.intro
    refine ⟨fun n K hK => ?_, ?_, ?_⟩
    · have x1 : ∀ m : KW n.w, m.w.cell? ⟨w.heap.size, 1, none⟩ = some (.int .i64 a) := fun m => (bx2.keep (keepN n.has m.keep) id).cell 1
      go_big_quiet_op
      exact hK _ rfl
    · kernel_rfl
    refine shM_gen rfl rfl (by kernel_rfl) (fun v _ => ∃ sh gu, v = opV q.ka sh gu) (fun v w w' h _ => h) (fun n => ?_) (fun v1 => ?_)
    · unfold yieldsK
      go_simp
      exact op_gen q.ka hka _
    simp only [Act.put, List.setIfInBounds_toArray, List.set_cons_zero, List.set_cons_succ]
    refine shM_step rfl rfl rfl (by rfl) (by rfl) ?_
    apply Exists.intro
    refine ⟨fun n K hK => ?_, ?_, ?_⟩
    · go_big_quiet_op
      apply Exists.intro
      refine ⟨fun m => ?_, ?_⟩
      · go_at_call 24
        exact kept_of (has_gen q.ka a v1 false _ HA.out n.has.2)
      · exact hK _ rfl
    · kernel_rfl
    refine shM_step rfl rfl rfl (by rfl) (by rfl) ?_
    apply Exists.intro
    refine ⟨fun n K hK => ?_, ?_, ?_⟩
    · go_big_quiet_op
      exact hK _ rfl
    · kernel_rfl
    refine shM_step rfl rfl rfl (by rfl) (by rfl) ?_
    apply Exists.intro
    refine ⟨fun n K hK => ?_, ?_, ?_⟩
    · go_big_quiet_op
      exact hK _ rfl
    · kernel_rfl
    refine shM_step rfl rfl rfl (by rfl) (by rfl) ?_
    apply Exists.intro
    refine ⟨fun n K hK => ?_, ?_, ?_⟩
    · go_big_quiet_op
      exact hK _ rfl
    · kernel_rfl
    refine shM_skip rfl (by kernel_rfl) (by kernel_rfl) ?_
    refine shM_skip rfl (by kernel_rfl) (by kernel_rfl) ?_
    refine shM_skip rfl (by kernel_rfl) (by kernel_rfl) ?_
    refine shM_skip rfl (by kernel_rfl) (by kernel_rfl) ?_
    refine shM_skip rfl (by kernel_rfl) (by kernel_rfl) ?_
    refine shM_skip rfl (by kernel_rfl) (by kernel_rfl) ?_
    refine shM_skip rfl (by kernel_rfl) (by kernel_rfl) ?_
    refine shM_skip rfl (by kernel_rfl) (by kernel_rfl) ?_
    refine shM_step rfl rfl rfl (by rfl) (by rfl) ?_
    apply Exists.intro
    refine ⟨fun n K hK => ?_, ?_, ?_⟩
    · go_big_quiet_op
      exact hK _ rfl
    · kernel_rfl
    refine shM_nil (fun n => ?_)
    have k3 := n.has.1
    generalize n.w = w3 at k3 ⊢
    have b3 := b2.keep k3 id
    have br3 := br2.keep k3 id
    have hK3 := keepN hK2 k3
    have f0 := fun i => br3.frozen i
    obtain ⟨c0, c1, c2, c3, c4, c5, c6, c7, c8⟩ := blk9 br3
    have hz3 := br3.lt
    clear k3 b2 br2 hK2 bx2
    go_wp2
    exact bodyPost_ret (v := .tuple #[rowV row0, .bool false]) (by simp [results, Tryd.results17, go_sem, c0, c1, c2, c3, c4, c5, c6, c7, c8, row0]) rfl ⟨rfl, keep9 hK3 (Nat.le_succ _) _ _ _ _ _ _ _ _ _⟩

set_option maxRecDepth 100000 in
set_option maxHeartbeats 1000000 in
theorem rowFor_c (op a b : Int) (q : Row) (w : World) (HQ : Hid (rowAt op = q)) (HI : Hid (isOp op = true)) (HA : Hid (inK q.ka a = true)) (HB : Hid (inK q.kb b = false)) (hka : 0 ≤ q.ka ∧ q.ka ≤ 10) (hkb : 0 ≤ q.kb ∧ q.kb ≤ 10) :
    Calls Tryd.prog 17 #[instV op a b] w (ForR row0 false w) := by
  go_enter Tryd.func17, Tryd.ntmps17
  go_wp2_with fail
  refine (rowOf_any op q _ HQ).mono ?_
  rw [HI.out]
  rintro e w1 ⟨rfl, k1⟩
  have bx := ((Blk.new w 23 #[.int .i64 op, .int .i64 a, .int .i64 b]).alloc (.cells rowZ 44)).keep k1 id
  have br := (Blk.new (w.alloc (.cells #[.int .i64 op, .int .i64 a, .int .i64 b] 23)) 44 rowZ).keep k1 id
  rw [World.size_alloc] at br
  have hK := keepN (((Keep.refl NoB w).alloc _).alloc _) k1
  have hz := br.lt
  go_wp2_with fail
  have b2 := Blk.new w1 44 #[.string (str q.name), .int .i64 q.ka, .int .i64 q.kb, .int .i64 q.ta, .int .i64 q.tb, .int .i64 q.la, .int .i64 q.lb, .bool q.hop, .bool q.fin]
  have bx2 := bx.alloc (.cells #[.string (str q.name), .int .i64 q.ka, .int .i64 q.kb, .int .i64 q.ta, .int .i64 q.tb, .int .i64 q.la, .int .i64 q.lb, .bool q.hop, .bool q.fin] 44)
  have br2 := br.alloc (.cells #[.string (str q.name), .int .i64 q.ka, .int .i64 q.kb, .int .i64 q.ta, .int .i64 q.tb, .int .i64 q.la, .int .i64 q.lb, .bool q.hop, .bool q.fin] 44)
  have hK2 := hK.alloc (.cells #[.string (str q.name), .int .i64 q.ka, .int .i64 q.kb, .int .i64 q.ta, .int .i64 q.tb, .int .i64 q.la, .int .i64 q.lb, .bool q.hop, .bool q.fin] 44)
  obtain ⟨w2, hw2⟩ : ∃ w2, w1.alloc (.cells #[.string (str q.name), .int .i64 q.ka, .int .i64 q.kb, .int .i64 q.ta, .int .i64 q.tb, .int .i64 q.la, .int .i64 q.lb, .bool q.hop, .bool q.fin] 44) = w2 := ⟨_, rfl⟩
  rw [hw2] at b2 bx2 br2 hK2
  have HW := Lib.hid hw2
  rw [hw2]
  clear hw2 bx br hK k1
  · refine wp_region_sh ((0, false) :: (1, false) :: (2, false) :: (3, false) :: (4, false) :: (5, false) :: (7, false) :: (8, false) :: (6, true) :: (9, false) :: (10, false) :: (11, false) :: (12, false) :: (13, false) :: (14, false) :: (15, false) :: (17, false) :: (18, false) :: (16, true) :: (19, false) :: (20, false) :: (21, false) :: []) (fun w' => Keep NoB w2 w') (by kernel_rfl) (by kernel_rfl) (by rfl) (by kernel_rfl) (stable_keep w2) (Keep.refl NoB w2).drew ?_
    refine shM_step rfl rfl rfl (by rfl) (by rfl) ?_
    apply Exists.intro
    refine ⟨fun n K hK => ?_, ?_, ?_⟩
    · go_big_quiet_op
      exact hK _ rfl
    · kernel_rfl
    refine shM_step rfl rfl rfl (by rfl) (by rfl) ?_
    apply Exists.intro
    refine ⟨fun n K hK => ?_, ?_, ?_⟩
    · go_big_quiet_op
      exact hK _ rfl
    · kernel_rfl
    refine shM_step rfl rfl rfl (by rfl) (by rfl) ?_
    apply Exists.intro
    refine ⟨fun n K hK => ?_, ?_, ?_⟩
    · go_big_quiet_op
      exact hK _ rfl
    · kernel_rfl
    refine shM_step rfl rfl rfl (by rfl) (by rfl) ?_
    apply Exists.intro
    refine ⟨fun n K hK => ?_, ?_, ?_⟩
    · go_big_quiet_op
      exact hK _ rfl
    · kernel_rfl
    refine shM_step rfl rfl rfl (by rfl) (by rfl) ?_
    apply Exists.intro
    refine ⟨fun n K hK => ?_, ?_, ?_⟩
    · go_big_quiet_op
      exact hK _ rfl
    · kernel_rfl
    refine shM_step rfl rfl rfl (by rfl) (by rfl) ?_
    apply Exists.intro
    refine ⟨fun n K hK => ?_, ?_, ?_⟩
    · have q1 : ∀ m : KW n.w, m.w.cell? ⟨w1.heap.size, 1, none⟩ = some (.int .i64 q.ka) := fun m => (b2.keep (keepN n.has m.keep) id).cell 1
      go_big_quiet_op
      exact hK _ rfl
    · kernel_rfl
    refine shM_step rfl rfl rfl (by rfl) (by rfl) ?_
    apply Exists.intro
    refine ⟨fun n K hK => ?_, ?_, ?_⟩
    · go_big_quiet_op
      exact hK _ rfl
    · kernel_rfl
    refine shM_step rfl rfl rfl (by rfl) (by rfl) ?_
    apply Exists.intro
    refine ⟨fun n K hK => ?_, ?_, ?_⟩
    · have x1 : ∀ m : KW n.w, m.w.cell? ⟨w.heap.size, 1, none⟩ = some (.int .i64 a) := fun m => (bx2.keep (keepN n.has m.keep) id).cell 1
      go_big_quiet_op
      exact hK _ rfl
    · kernel_rfl
    refine shM_gen rfl rfl (by kernel_rfl) (fun v _ => ∃ sh gu, v = opV q.ka sh gu) (fun v w w' h _ => h) (fun n => ?_) (fun v1 => ?_)
    · unfold yieldsK
      go_simp
      exact op_gen q.ka hka _
    simp only [Act.put, List.setIfInBounds_toArray, List.set_cons_zero, List.set_cons_succ]
    refine shM_step rfl rfl rfl (by rfl) (by rfl) ?_
    apply Exists.intro
    refine ⟨fun n K hK => ?_, ?_, ?_⟩
    · go_big_quiet_op
      apply Exists.intro
      refine ⟨fun m => ?_, ?_⟩
      · go_at_call 24
        exact kept_of (has_gen q.ka a v1 true _ HA.out n.has.2)
      · exact hK _ rfl
    · kernel_rfl
    refine shM_step rfl rfl rfl (by rfl) (by rfl) ?_
    apply Exists.intro
    refine ⟨fun n K hK => ?_, ?_, ?_⟩
    · go_big_quiet_op
      exact hK _ rfl
    · kernel_rfl
    refine shM_step rfl rfl rfl (by rfl) (by rfl) ?_
    apply Exists.intro
    refine ⟨fun n K hK => ?_, ?_, ?_⟩
    · go_big_quiet_op
      exact hK _ rfl
    · kernel_rfl
    refine shM_step rfl rfl rfl (by rfl) (by rfl) ?_
    apply Exists.intro
    refine ⟨fun n K hK => ?_, ?_, ?_⟩
    · go_big_quiet_op
      exact hK _ rfl
    · kernel_rfl
    refine shM_step rfl rfl rfl (by rfl) (by rfl) ?_
    apply Exists.intro
    refine ⟨fun n K hK => ?_, ?_, ?_⟩
    · go_big_quiet_op
      exact hK _ rfl
    · kernel_rfl
    refine shM_step rfl rfl rfl (by rfl) (by rfl) ?_
    apply Exists.intro
    refine ⟨fun n K hK => ?_, ?_, ?_⟩
    · go_big_quiet_op
      exact hK _ rfl
    · kernel_rfl
    refine shM_step rfl rfl rfl (by rfl) (by rfl) ?_
    apply Exists.intro
    refine ⟨fun n K hK => ?_, ?_, ?_⟩
    · have q1 : ∀ m : KW n.w, m.w.cell? ⟨w1.heap.size, 2, none⟩ = some (.int .i64 q.kb) := fun m => (b2.keep (keepN n.has.1 m.keep) id).cell 2
      go_big_quiet_op
      exact hK _ rfl
    · kernel_rfl
    refine shM_step rfl rfl rfl (by rfl) (by rfl) ?_
    apply Exists.intro
    refine ⟨fun n K hK => ?_, ?_, ?_⟩
    · go_big_quiet_op
      exact hK _ rfl
    · kernel_rfl
    refine shM_step rfl rfl rfl (by rfl) (by rfl) ?_
    apply Exists.intro
    refine ⟨fun n K hK => ?_, ?_, ?_⟩
    · have x1 : ∀ m : KW n.w, m.w.cell? ⟨w.heap.size, 2, none⟩ = some (.int .i64 b) := fun m => (bx2.keep (keepN n.has.1 m.keep) id).cell 2
      go_big_quiet_op
      exact hK _ rfl
    · kernel_rfl
    refine shM_gen rfl rfl (by kernel_rfl) (fun v _ => ∃ sh gu, v = opV q.kb sh gu) (fun v w w' h _ => h) (fun n => ?_) (fun v2 => ?_)
    · unfold yieldsK
      go_simp
      exact op_gen q.kb hkb _
    simp only [Act.put, List.setIfInBounds_toArray, List.set_cons_zero, List.set_cons_succ]
    refine shM_step rfl rfl rfl (by rfl) (by rfl) ?_
    apply Exists.intro
    refine ⟨fun n K hK => ?_, ?_, ?_⟩
    · go_big_quiet_op
      apply Exists.intro
      refine ⟨fun m => ?_, ?_⟩
      · go_at_call 24
        exact kept_of (has_gen q.kb b v2 false _ HB.out n.has.2)
      · exact hK _ rfl
    · kernel_rfl
    refine shM_step rfl rfl rfl (by rfl) (by rfl) ?_
    apply Exists.intro
    refine ⟨fun n K hK => ?_, ?_, ?_⟩
    · go_big_quiet_op
      exact hK _ rfl
    · kernel_rfl
    refine shM_step rfl rfl rfl (by rfl) (by rfl) ?_
    apply Exists.intro
    refine ⟨fun n K hK => ?_, ?_, ?_⟩
    · go_big_quiet_op
      exact hK _ rfl
    · kernel_rfl
    refine shM_nil (fun n => ?_)
    have k3 := n.has.1.1
    generalize n.w = w3 at k3 ⊢
    have b3 := b2.keep k3 id
    have br3 := br2.keep k3 id
    have hK3 := keepN hK2 k3
    have f0 := fun i => br3.frozen i
    obtain ⟨c0, c1, c2, c3, c4, c5, c6, c7, c8⟩ := blk9 br3
    have hz3 := br3.lt
    clear k3 b2 br2 hK2 bx2
    go_wp2
    exact bodyPost_ret (v := .tuple #[rowV row0, .bool false]) (by simp [results, Tryd.results17, go_sem, c0, c1, c2, c3, c4, c5, c6, c7, c8, row0]) rfl ⟨rfl, keep9 hK3 (Nat.le_succ _) _ _ _ _ _ _ _ _ _⟩

set_option maxRecDepth 100000 in
set_option maxHeartbeats 1000000 in
theorem rowFor_d (op a b : Int) (q : Row) (w : World) (HQ : Hid (rowAt op = q)) (HI : Hid (isOp op = true)) (HA : Hid (inK q.ka a = true)) (HB : Hid (inK q.kb b = true)) (hka : 0 ≤ q.ka ∧ q.ka ≤ 10) (hkb : 0 ≤ q.kb ∧ q.kb ≤ 10) :
    Calls Tryd.prog 17 #[instV op a b] w (ForR q true w) := by
  go_enter Tryd.func17, Tryd.ntmps17
  go_wp2_with fail
  refine (rowOf_any op q _ HQ).mono ?_
  rw [HI.out]
  rintro e w1 ⟨rfl, k1⟩
  have bx := ((Blk.new w 23 #[.int .i64 op, .int .i64 a, .int .i64 b]).alloc (.cells rowZ 44)).keep k1 id
  have br := (Blk.new (w.alloc (.cells #[.int .i64 op, .int .i64 a, .int .i64 b] 23)) 44 rowZ).keep k1 id
  rw [World.size_alloc] at br
  have hK := keepN (((Keep.refl NoB w).alloc _).alloc _) k1
  have hz := br.lt
  go_wp2_with fail
  have b2 := Blk.new w1 44 #[.string (str q.name), .int .i64 q.ka, .int .i64 q.kb, .int .i64 q.ta, .int .i64 q.tb, .int .i64 q.la, .int .i64 q.lb, .bool q.hop, .bool q.fin]
  have bx2 := bx.alloc (.cells #[.string (str q.name), .int .i64 q.ka, .int .i64 q.kb, .int .i64 q.ta, .int .i64 q.tb, .int .i64 q.la, .int .i64 q.lb, .bool q.hop, .bool q.fin] 44)
  have br2 := br.alloc (.cells #[.string (str q.name), .int .i64 q.ka, .int .i64 q.kb, .int .i64 q.ta, .int .i64 q.tb, .int .i64 q.la, .int .i64 q.lb, .bool q.hop, .bool q.fin] 44)
  have hK2 := hK.alloc (.cells #[.string (str q.name), .int .i64 q.ka, .int .i64 q.kb, .int .i64 q.ta, .int .i64 q.tb, .int .i64 q.la, .int .i64 q.lb, .bool q.hop, .bool q.fin] 44)
  obtain ⟨w2, hw2⟩ : ∃ w2, w1.alloc (.cells #[.string (str q.name), .int .i64 q.ka, .int .i64 q.kb, .int .i64 q.ta, .int .i64 q.tb, .int .i64 q.la, .int .i64 q.lb, .bool q.hop, .bool q.fin] 44) = w2 := ⟨_, rfl⟩
  rw [hw2] at b2 bx2 br2 hK2
  have HW := Lib.hid hw2
  rw [hw2]
  clear hw2 bx br hK k1
  · refine wp_region_sh ((0, false) :: (1, false) :: (2, false) :: (3, false) :: (4, false) :: (5, false) :: (7, false) :: (8, false) :: (6, true) :: (9, false) :: (10, false) :: (11, false) :: (12, false) :: (13, false) :: (14, false) :: (15, false) :: (17, false) :: (18, false) :: (16, true) :: (19, false) :: (20, false) :: (21, false) :: []) (fun w' => Keep NoB w2 w') (by kernel_rfl) (by kernel_rfl) (by rfl) (by kernel_rfl) (stable_keep w2) (Keep.refl NoB w2).drew ?_
    refine shM_step rfl rfl rfl (by rfl) (by rfl) ?_
    apply Exists.intro
    refine ⟨fun n K hK => ?_, ?_, ?_⟩
    · go_big_quiet_op
      exact hK _ rfl
    · kernel_rfl
    refine shM_step rfl rfl rfl (by rfl) (by rfl) ?_
    apply Exists.intro
    refine ⟨fun n K hK => ?_, ?_, ?_⟩
    · go_big_quiet_op
      exact hK _ rfl
    · kernel_rfl
    refine shM_step rfl rfl rfl (by rfl) (by rfl) ?_
    apply Exists.intro
    refine ⟨fun n K hK => ?_, ?_, ?_⟩
    · go_big_quiet_op
      exact hK _ rfl
    · kernel_rfl
    refine shM_step rfl rfl rfl (by rfl) (by rfl) ?_
    apply Exists.intro
    refine ⟨fun n K hK => ?_, ?_, ?_⟩
    · go_big_quiet_op
      exact hK _ rfl
    · kernel_rfl
    refine shM_step rfl rfl rfl (by rfl) (by rfl) ?_
    apply Exists.intro
    refine ⟨fun n K hK => ?_, ?_, ?_⟩
    · go_big_quiet_op
      exact hK _ rfl
    · kernel_rfl
    refine shM_step rfl rfl rfl (by rfl) (by rfl) ?_
    apply Exists.intro
    refine ⟨fun n K hK => ?_, ?_, ?_⟩
    · have q1 : ∀ m : KW n.w, m.w.cell? ⟨w1.heap.size, 1, none⟩ = some (.int .i64 q.ka) := fun m => (b2.keep (keepN n.has m.keep) id).cell 1
      go_big_quiet_op
      exact hK _ rfl
    · kernel_rfl
    refine shM_step rfl rfl rfl (by rfl) (by rfl) ?_
    apply Exists.intro
    refine ⟨fun n K hK => ?_, ?_, ?_⟩
    · go_big_quiet_op
      exact hK _ rfl
    · kernel_rfl
    refine shM_step rfl rfl rfl (by rfl) (by rfl) ?_
    apply Exists.intro
    refine ⟨fun n K hK => ?_, ?_, ?_⟩
    · have x1 : ∀ m : KW n.w, m.w.cell? ⟨w.heap.size, 1, none⟩ = some (.int .i64 a) := fun m => (bx2.keep (keepN n.has m.keep) id).cell 1
      go_big_quiet_op
      exact hK _ rfl
    · kernel_rfl
    refine shM_gen rfl rfl (by kernel_rfl) (fun v _ => ∃ sh gu, v = opV q.ka sh gu) (fun v w w' h _ => h) (fun n => ?_) (fun v1 => ?_)
    · unfold yieldsK
      go_simp
      exact op_gen q.ka hka _
    simp only [Act.put, List.setIfInBounds_toArray, List.set_cons_zero, List.set_cons_succ]
    refine shM_step rfl rfl rfl (by rfl) (by rfl) ?_
    apply Exists.intro
    refine ⟨fun n K hK => ?_, ?_, ?_⟩
    · go_big_quiet_op
      apply Exists.intro
      refine ⟨fun m => ?_, ?_⟩
      · go_at_call 24
        exact kept_of (has_gen q.ka a v1 true _ HA.out n.has.2)
      · exact hK _ rfl
    · kernel_rfl
    refine shM_step rfl rfl rfl (by rfl) (by rfl) ?_
    apply Exists.intro
    refine ⟨fun n K hK => ?_, ?_, ?_⟩
    · go_big_quiet_op
      exact hK _ rfl
    · kernel_rfl
    refine shM_step rfl rfl rfl (by rfl) (by rfl) ?_
    apply Exists.intro
    refine ⟨fun n K hK => ?_, ?_, ?_⟩
    · go_big_quiet_op
      exact hK _ rfl
    · kernel_rfl
    refine shM_step rfl rfl rfl (by rfl) (by rfl) ?_
    apply Exists.intro
    refine ⟨fun n K hK => ?_, ?_, ?_⟩
    · go_big_quiet_op
      exact hK _ rfl
    · kernel_rfl
    refine shM_step rfl rfl rfl (by rfl) (by rfl) ?_
    apply Exists.intro
    refine ⟨fun n K hK => ?_, ?_, ?_⟩
    · go_big_quiet_op
      exact hK _ rfl
    · kernel_rfl
    refine shM_step rfl rfl rfl (by rfl) (by rfl) ?_
    apply Exists.intro
    refine ⟨fun n K hK => ?_, ?_, ?_⟩
    · go_big_quiet_op
      exact hK _ rfl
    · kernel_rfl
    refine shM_step rfl rfl rfl (by rfl) (by rfl) ?_
    apply Exists.intro
    refine ⟨fun n K hK => ?_, ?_, ?_⟩
    · have q1 : ∀ m : KW n.w, m.w.cell? ⟨w1.heap.size, 2, none⟩ = some (.int .i64 q.kb) := fun m => (b2.keep (keepN n.has.1 m.keep) id).cell 2
      go_big_quiet_op
      exact hK _ rfl
    · kernel_rfl
    refine shM_step rfl rfl rfl (by rfl) (by rfl) ?_
    apply Exists.intro
    refine ⟨fun n K hK => ?_, ?_, ?_⟩
    · go_big_quiet_op
      exact hK _ rfl
    · kernel_rfl
    refine shM_step rfl rfl rfl (by rfl) (by rfl) ?_
    apply Exists.intro
    refine ⟨fun n K hK => ?_, ?_, ?_⟩
    · have x1 : ∀ m : KW n.w, m.w.cell? ⟨w.heap.size, 2, none⟩ = some (.int .i64 b) := fun m => (bx2.keep (keepN n.has.1 m.keep) id).cell 2
      go_big_quiet_op
      exact hK _ rfl
    · kernel_rfl
    refine shM_gen rfl rfl (by kernel_rfl) (fun v _ => ∃ sh gu, v = opV q.kb sh gu) (fun v w w' h _ => h) (fun n => ?_) (fun v2 => ?_)
    · unfold yieldsK
      go_simp
      exact op_gen q.kb hkb _
    simp only [Act.put, List.setIfInBounds_toArray, List.set_cons_zero, List.set_cons_succ]
    refine shM_step rfl rfl rfl (by rfl) (by rfl) ?_
    apply Exists.intro
    refine ⟨fun n K hK => ?_, ?_, ?_⟩
    · go_big_quiet_op
      apply Exists.intro
      refine ⟨fun m => ?_, ?_⟩
      · go_at_call 24
        exact kept_of (has_gen q.kb b v2 true _ HB.out n.has.2)
      · exact hK _ rfl
    · kernel_rfl
    refine shM_step rfl rfl rfl (by rfl) (by rfl) ?_
    apply Exists.intro
    refine ⟨fun n K hK => ?_, ?_, ?_⟩
    · go_big_quiet_op
      exact hK _ rfl
    · kernel_rfl
    refine shM_step rfl rfl rfl (by rfl) (by rfl) ?_
    apply Exists.intro
    refine ⟨fun n K hK => ?_, ?_, ?_⟩
    · go_big_quiet_op
      exact hK _ rfl
    · kernel_rfl
    refine shM_nil (fun n => ?_)
    have k3 := n.has.1.1
    generalize n.w = w3 at k3 ⊢
    have b3 := b2.keep k3 id
    have br3 := br2.keep k3 id
    have hK3 := keepN hK2 k3
    have f0 := fun i => br3.frozen i
    obtain ⟨c0, c1, c2, c3, c4, c5, c6, c7, c8⟩ := blk9 br3
    obtain ⟨d0, d1, d2, d3, d4, d5, d6, d7, d8⟩ := blk9 b3
    have hz3 := br3.lt
    clear k3 b2 br2 hK2 bx2
    go_wp2
    exact bodyPost_ret (v := .tuple #[rowV q, .bool true]) (by simp [results, Tryd.results17, go_sem, c0, c1, c2, c3, c4, c5, c6, c7, c8]) rfl ⟨rfl, keep9 hK3 (Nat.le_succ _) _ _ _ _ _ _ _ _ _⟩

theorem rowFor_any (op a b : Int) (r : Row) (w : World) (hr : Hid (rowR op a b = r)) : Calls Tryd.prog 17 #[instV op a b] w (ForR r (okI op a b) w) := by
  obtain ⟨h1, h2, h3, h4⟩ := kinds_ok op
  have hr := hr.out
  subst hr
  cases ho : isOp op
  · have hok : okI op a b = false := by unfold okI; rw [ho]; rfl
    rw [rowR_no hok, hok]
    exact rowFor_a op a b _ w rfl ho
  · cases ha : inK (rowAt op).ka a
    · have hok : okI op a b = false := by unfold okI; rw [ho, ha]; rfl
      rw [rowR_no hok, hok]
      exact rowFor_b op a b _ w rfl ho ha ⟨h1, h2⟩
    · cases hb : inK (rowAt op).kb b
      · have hok : okI op a b = false := by unfold okI; rw [ho, ha, hb]; rfl
        rw [rowR_no hok, hok]
        exact rowFor_c op a b _ w rfl ho ha hb ⟨h1, h2⟩ ⟨h3, h4⟩
      · have hok : okI op a b = true := by unfold okI; rw [ho, ha, hb]; rfl
        rw [rowR_ok hok, hok]
        exact rowFor_d op a b _ w rfl ho ha hb ⟨h1, h2⟩ ⟨h3, h4⟩

end Go.Proofs.YtpkcjokkadfhcaaDoor.O
