/-
  What rowFor answers. No conditions.
  What Check, Ends, Goes, Kinds, Name and Effect answer. Conditions: none but that numbers fit an int64.
  The plain mathematics of layer code: instructions as triples, lists of them as cells, which lists are bodies, heads and stretches, what one more and one fewer make, how many have an op. No program, no conditions.
  The plain mathematics of functions: names, which may be, their bytes, their slots. No program, no conditions.
  What Check, Count, ifBody and hasPlace of layer code answer: is a list a body, and how many have an op? Conditions: the list lies in memory.
  What Count, ifBody and hasPlace of layer code answer. Conditions: the list lies in memory.
  The document's Kinds, least, most, in and Check. Conditions: none but that numbers fit an int64.
  What Known, Check, Zero and Nil answer, the code's and the document's. No conditions.
  What Nil answers, the code's and the document's; great. No conditions.
  What the document's Ints and Same answer: are two lists the same? Conditions: the lists lie in memory.
  What Zeros and Of answer: new lists. Conditions: the lists lie in memory, no more than 4096 long.
-/
import Derived.Test.YtbnekeomdhljhaaGreatDoorQ4
import Derived.Test.YtbnekeomdhljhaaGreatDoorQ2
namespace Go.Proofs.YtbnekeomdhljhaaGreatDoor.O
open Go.RowKit

/-- An instruction as a value. -/
abbrev instV (op a b : Int) : Value := .agg #[.int .i64 op, .int .i64 a, .int .i64 b]
/-- The row of an instruction, if that may be. -/
def rowR (op a b : Int) : Row := if okI op a b = true then rowAt op else row0
theorem rowR_ok {op a b : Int} (h : okI op a b = true) : rowR op a b = rowAt op := by unfold rowR; rw [if_pos h]
theorem rowR_no {op a b : Int} (h : okI op a b = false) : rowR op a b = row0 := by unfold rowR; rw [if_neg (by rw [h]; decide)]
theorem kinds_ok (op : Int) : 0 ≤ (rowAt op).ka ∧ (rowAt op).ka ≤ 10 ∧ 0 ≤ (rowAt op).kb ∧ (rowAt op).kb ≤ 10 := by
  have := rowAt_all (p := fun r => decide (0 ≤ r.ka ∧ r.ka ≤ 10 ∧ 0 ≤ r.kb ∧ r.kb ≤ 10)) (by decide) (by decide) op
  simpa using this

theorem has_gen (k n : Int) (v : Value) (t : Bool) (w : World) (ht : inK k n = t) (hv : ∃ sh gu, v = opV k sh gu) :
    Calls Tryz.prog 168 #[v, .int .i64 n] w fun e w' => e = .returned (.bool t) ∧ Keep NoB w w' := by
  subst ht; exact has_any k n v w hv
theorem op_gen (k : Int) (hk : 0 ≤ k ∧ k ≤ 10) (w : World) :
    Calls Tryz.prog 156 #[.int .i64 k] w fun e w' => ∃ u, e = .returned u ∧ (∃ sh gu, u = opV k sh gu) ∧ Keep NoB w w' :=
  (operandOf_any k hk w).mono fun _ _ ⟨sh, gu, he, _, hk⟩ => ⟨_, he, ⟨sh, gu, rfl⟩, hk⟩
abbrev cells9 (q : Row) : Array Value := #[.string (str q.name), .int .i64 q.ka, .int .i64 q.kb, .int .i64 q.ta, .int .i64 q.tb, .int .i64 q.la, .int .i64 q.lb, .bool q.hop, .bool q.fin]

/-- What rowFor answers. -/
def ForR (q : Row) (t : Bool) (w : World) (e : Ending) (w' : World) : Prop := e = .returned (.tuple #[rowV q, .bool t]) ∧ Keep NoB w w'

set_option maxRecDepth 100000 in
set_option maxHeartbeats 1000000 in
theorem rowFor_a (op a b : Int) (q : Row) (w : World) (HQ : Hid (rowAt op = q)) (HI : Hid (isOp op = false)) :
    Calls Tryz.prog 146 #[instV op a b] w (ForR row0 false w) := by
  go_enter Tryz.func146, Tryz.ntmps146
  go_wp2_with fail
  refine (rowOf_any op q _ HQ).mono ?_
  rw [HI.out]
  rintro e w1 ⟨rfl, k1⟩
  have bx := ((Blk.new w 74 #[.int .i64 op, .int .i64 a, .int .i64 b]).alloc (.cells rowZ 200)).keep k1 id
  have br := (Blk.new (w.alloc (.cells #[.int .i64 op, .int .i64 a, .int .i64 b] 74)) 200 rowZ).keep k1 id
  rw [World.size_alloc] at br
  have hK := keepN (((Keep.refl NoB w).alloc _).alloc _) k1
  have hz := br.lt
  go_wp2_with fail
  have b2 := Blk.new w1 200 #[.string (str q.name), .int .i64 q.ka, .int .i64 q.kb, .int .i64 q.ta, .int .i64 q.tb, .int .i64 q.la, .int .i64 q.lb, .bool q.hop, .bool q.fin]
  have bx2 := bx.alloc (.cells #[.string (str q.name), .int .i64 q.ka, .int .i64 q.kb, .int .i64 q.ta, .int .i64 q.tb, .int .i64 q.la, .int .i64 q.lb, .bool q.hop, .bool q.fin] 200)
  have br2 := br.alloc (.cells #[.string (str q.name), .int .i64 q.ka, .int .i64 q.kb, .int .i64 q.ta, .int .i64 q.tb, .int .i64 q.la, .int .i64 q.lb, .bool q.hop, .bool q.fin] 200)
  have hK2 := hK.alloc (.cells #[.string (str q.name), .int .i64 q.ka, .int .i64 q.kb, .int .i64 q.ta, .int .i64 q.tb, .int .i64 q.la, .int .i64 q.lb, .bool q.hop, .bool q.fin] 200)
  obtain ⟨w2, hw2⟩ : ∃ w2, w1.alloc (.cells #[.string (str q.name), .int .i64 q.ka, .int .i64 q.kb, .int .i64 q.ta, .int .i64 q.tb, .int .i64 q.la, .int .i64 q.lb, .bool q.hop, .bool q.fin] 200) = w2 := ⟨_, rfl⟩
  rw [hw2] at b2 bx2 br2 hK2
  have HW := Lib.hid hw2
  rw [hw2]
  clear hw2 bx br hK k1
  · refine wp_region_sh ((0, false) :: (1, false) :: (2, false) :: (3, false) :: (4, false) :: (5, false) :: (7, false) :: (8, false) :: (6, true) :: (9, false) :: (10, false) :: (11, false) :: (12, false) :: (13, false) :: (14, false) :: (15, false) :: (17, false) :: (18, false) :: (16, true) :: (19, false) :: (20, false) :: (21, false) :: []) (fun w' => Keep NoB w2 w') (by kernel_rfl) (by kernel_rfl) (by rfl) (by kernel_rfl) (stable_keep w2) (Keep.refl NoB w2).drew ?_
    refine shM_step rfl rfl rfl (by rfl) (by rfl) ?_
    apply Exists.intro
    refine ⟨fun n K hK => ?_, ?_, ?_⟩
    · go_big_quiet_op
      exact hK _ rfl
    · kernel_rfl
    refine shM_step rfl rfl rfl (by rfl) (by rfl) ?_
    apply Exists.intro
    refine ⟨fun n K hK => ?_, ?_, ?_⟩
    · go_big_quiet_op
      exact hK _ rfl
    · kernel_rfl
    refine shM_step rfl rfl rfl (by rfl) (by rfl) ?_
    apply Exists.intro
    refine ⟨fun n K hK => ?_, ?_, ?_⟩
    · go_big_quiet_op
      exact hK _ rfl
    · kernel_rfl
    refine shM_skip rfl (by kernel_rfl) (by kernel_rfl) ?_
    refine shM_skip rfl (by kernel_rfl) (by kernel_rfl) ?_
    refine shM_skip rfl (by kernel_rfl) (by kernel_rfl) ?_
    refine shM_skip rfl (by kernel_rfl) (by kernel_rfl) ?_
    refine shM_skip rfl (by kernel_rfl) (by kernel_rfl) ?_
    refine shM_skip rfl (by kernel_rfl) (by kernel_rfl) ?_
    refine shM_skip rfl (by kernel_rfl) (by kernel_rfl) ?_
    refine shM_skip rfl (by kernel_rfl) (by kernel_rfl) ?_
    refine shM_step rfl rfl rfl (by rfl) (by rfl) ?_
    apply Exists.intro
    refine ⟨fun n K hK => ?_, ?_, ?_⟩
    · go_big_quiet_op
      exact hK _ rfl
    · kernel_rfl
    refine shM_step rfl rfl rfl (by rfl) (by rfl) ?_
    apply Exists.intro
    refine ⟨fun n K hK => ?_, ?_, ?_⟩
    · go_big_quiet_op
      exact hK _ rfl
    · kernel_rfl
    refine shM_skip rfl (by kernel_rfl) (by kernel_rfl) ?_
    refine shM_skip rfl (by kernel_rfl) (by kernel_rfl) ?_
    refine shM_skip rfl (by kernel_rfl) (by kernel_rfl) ?_
    refine shM_skip rfl (by kernel_rfl) (by kernel_rfl) ?_
    refine shM_skip rfl (by kernel_rfl) (by kernel_rfl) ?_
    refine shM_skip rfl (by kernel_rfl) (by kernel_rfl) ?_
    refine shM_skip rfl (by kernel_rfl) (by kernel_rfl) ?_
    refine shM_skip rfl (by kernel_rfl) (by kernel_rfl) ?_
    refine shM_step rfl rfl rfl (by rfl) (by rfl) ?_
    apply Exists.intro
    refine ⟨fun n K hK => ?_, ?_, ?_⟩
    · go_big_quiet_op
      exact hK _ rfl
    · kernel_rfl
    refine shM_nil (fun n => ?_)
    have k3 := n.has
    generalize n.w = w3 at k3 ⊢
    have b3 := b2.keep k3 id
    have br3 := br2.keep k3 id
    have hK3 := keepN hK2 k3
    have f0 := fun i => br3.frozen i
    obtain ⟨c0, c1, c2, c3, c4, c5, c6, c7, c8⟩ := blk9 br3
    have hz3 := br3.lt
    clear k3 b2 br2 hK2 bx2
    go_wp2
    exact bodyPost_ret (v := .tuple #[rowV row0, .bool false]) (by simp [results, Tryz.results146, go_sem, c0, c1, c2, c3, c4, c5, c6, c7, c8, row0]) rfl ⟨rfl, keep9 hK3 (Nat.le_succ _) _ _ _ _ _ _ _ _ _⟩

set_option maxRecDepth 100000 in
set_option maxHeartbeats 1000000 in
theorem rowFor_b (op a b : Int) (q : Row) (w : World) (HQ : Hid (rowAt op = q)) (HI : Hid (isOp op = true)) (HA : Hid (inK q.ka a = false)) (hka : 0 ≤ q.ka ∧ q.ka ≤ 10) :
    Calls Tryz.prog 146 #[instV op a b] w (ForR row0 false w) := by
  go_enter Tryz.func146, Tryz.ntmps146
  go_wp2_with fail
  refine (rowOf_any op q _ HQ).mono ?_
  rw [HI.out]
  rintro e w1 ⟨rfl, k1⟩
  have bx := ((Blk.new w 74 #[.int .i64 op, .int .i64 a, .int .i64 b]).alloc (.cells rowZ 200)).keep k1 id
  have br := (Blk.new (w.alloc (.cells #[.int .i64 op, .int .i64 a, .int .i64 b] 74)) 200 rowZ).keep k1 id
  rw [World.size_alloc] at br
  have hK := keepN (((Keep.refl NoB w).alloc _).alloc _) k1
  have hz := br.lt
  go_wp2_with fail
  have b2 := Blk.new w1 200 #[.string (str q.name), .int .i64 q.ka, .int .i64 q.kb, .int .i64 q.ta, .int .i64 q.tb, .int .i64 q.la, .int .i64 q.lb, .bool q.hop, .bool q.fin]
  have bx2 := bx.alloc (.cells #[.string (str q.name), .int .i64 q.ka, .int .i64 q.kb, .int .i64 q.ta, .int .i64 q.tb, .int .i64 q.la, .int .i64 q.lb, .bool q.hop, .bool q.fin] 200)
  have br2 := br.alloc (.cells #[.string (str q.name), .int .i64 q.ka, .int .i64 q.kb, .int .i64 q.ta, .int .i64 q.tb, .int .i64 q.la, .int .i64 q.lb, .bool q.hop, .bool q.fin] 200)
  have hK2 := hK.alloc (.cells #[.string (str q.name), .int .i64 q.ka, .int .i64 q.kb, .int .i64 q.ta, .int .i64 q.tb, .int .i64 q.la, .int .i64 q.lb, .bool q.hop, .bool q.fin] 200)
  obtain ⟨w2, hw2⟩ : ∃ w2, w1.alloc (.cells #[.string (str q.name), .int .i64 q.ka, .int .i64 q.kb, .int .i64 q.ta, .int .i64 q.tb, .int .i64 q.la, .int .i64 q.lb, .bool q.hop, .bool q.fin] 200) = w2 := ⟨_, rfl⟩
  rw [hw2] at b2 bx2 br2 hK2
  have HW := Lib.hid hw2
  rw [hw2]
  clear hw2 bx br hK k1
  · refine wp_region_sh ((0, false) :: (1, false) :: (2, false) :: (3, false) :: (4, false) :: (5, false) :: (7, false) :: (8, false) :: (6, true) :: (9, false) :: (10, false) :: (11, false) :: (12, false) :: (13, false) :: (14, false) :: (15, false) :: (17, false) :: (18, false) :: (16, true) :: (19, false) :: (20, false) :: (21, false) :: []) (fun w' => Keep NoB w2 w') (by kernel_rfl) (by kernel_rfl) (by rfl) (by kernel_rfl) (stable_keep w2) (Keep.refl NoB w2).drew ?_
    refine shM_step rfl rfl rfl (by rfl) (by rfl) ?_
    apply Exists.intro
    refine ⟨fun n K hK => ?_, ?_, ?_⟩
    · go_big_quiet_op
      exact hK _ rfl
    · kernel_rfl
    refine shM_step rfl rfl rfl (by rfl) (by rfl) ?_
    apply Exists.intro
    refine ⟨fun n K hK => ?_, ?_, ?_⟩
    · go_big_quiet_op
      exact hK _ rfl
    · kernel_rfl
    refine shM_step rfl rfl rfl (by rfl) (by rfl) ?_
    apply Exists.intro
    refine ⟨fun n K hK => ?_, ?_, ?_⟩
    · go_big_quiet_op
      exact hK _ rfl
    · kernel_rfl
    refine shM_step rfl rfl rfl (by rfl) (by rfl) ?_
    apply Exists.intro
    refine ⟨fun n K hK => ?_, ?_, ?_⟩
    · go_big_quiet_op
      exact hK _ rfl
    · kernel_rfl
    refine shM_step rfl rfl rfl (by rfl) (by rfl) ?_
    apply Exists.intro
    refine ⟨fun n K hK => ?_, ?_, ?_⟩
    · go_big_quiet_op
      exact hK _ rfl
    · kernel_rfl
    refine shM_step rfl rfl rfl (by rfl) (by rfl) ?_
    apply Exists.intro
    refine ⟨fun n K hK => ?_, ?_, ?_⟩
    · have q1 : ∀ m : KW n.w, m.w.cell? ⟨w1.heap.size, 1, none⟩ = some (.int .i64 q.ka) := fun m => (b2.keep (keepN n.has m.keep) id).cell 1
      go_big_quiet_op
      exact hK _ rfl
    · kernel_rfl
    refine shM_step rfl rfl rfl (by rfl) (by rfl) ?_
    apply Exists.intro
    refine ⟨fun n K hK => ?_, ?_, ?_⟩
    · go_big_quiet_op
      exact hK _ rfl
    · kernel_rfl
    refine shM_step rfl rfl rfl (by rfl) (by rfl) ?_
    apply Exists.intro
    refine ⟨fun n K hK => ?_, ?_, ?_⟩
    · have x1 : ∀ m : KW n.w, m.w.cell? ⟨w.heap.size, 1, none⟩ = some (.int .i64 a) := fun m => (bx2.keep (keepN n.has m.keep) id).cell 1
      go_big_quiet_op
      exact hK _ rfl
    · kernel_rfl
    refine shM_gen rfl rfl (by kernel_rfl) (fun v _ => ∃ sh gu, v = opV q.ka sh gu) (fun v w w' h _ => h) (fun n => ?_) (fun v1 => ?_)
    · unfold yieldsK
      go_simp
      exact op_gen q.ka hka _
    simp only [Act.put, List.setIfInBounds_toArray, List.set_cons_zero, List.set_cons_succ]
    refine shM_step rfl rfl rfl (by rfl) (by rfl) ?_
    apply Exists.intro
    refine ⟨fun n K hK => ?_, ?_, ?_⟩
    · go_big_quiet_op
      apply Exists.intro
      refine ⟨fun m => ?_, ?_⟩
      · go_at_call 168
        exact kept_of (has_gen q.ka a v1 false _ HA.out n.has.2)
      · exact hK _ rfl
    · kernel_rfl
    refine shM_step rfl rfl rfl (by rfl) (by rfl) ?_
    apply Exists.intro
    refine ⟨fun n K hK => ?_, ?_, ?_⟩
    · go_big_quiet_op
      exact hK _ rfl
    · kernel_rfl
    refine shM_step rfl rfl rfl (by rfl) (by rfl) ?_
    apply Exists.intro
    refine ⟨fun n K hK => ?_, ?_, ?_⟩
    · go_big_quiet_op
      exact hK _ rfl
    · kernel_rfl
    refine shM_step rfl rfl rfl (by rfl) (by rfl) ?_
    apply Exists.intro
    refine ⟨fun n K hK => ?_, ?_, ?_⟩
    · go_big_quiet_op
      exact hK _ rfl
    · kernel_rfl
    refine shM_skip rfl (by kernel_rfl) (by kernel_rfl) ?_
    refine shM_skip rfl (by kernel_rfl) (by kernel_rfl) ?_
    refine shM_skip rfl (by kernel_rfl) (by kernel_rfl) ?_
    refine shM_skip rfl (by kernel_rfl) (by kernel_rfl) ?_
    refine shM_skip rfl (by kernel_rfl) (by kernel_rfl) ?_
    refine shM_skip rfl (by kernel_rfl) (by kernel_rfl) ?_
    refine shM_skip rfl (by kernel_rfl) (by kernel_rfl) ?_
    refine shM_skip rfl (by kernel_rfl) (by kernel_rfl) ?_
    refine shM_step rfl rfl rfl (by rfl) (by rfl) ?_
    apply Exists.intro
    refine ⟨fun n K hK => ?_, ?_, ?_⟩
    · go_big_quiet_op
      exact hK _ rfl
    · kernel_rfl
    refine shM_nil (fun n => ?_)
    have k3 := n.has.1
    generalize n.w = w3 at k3 ⊢
    have b3 := b2.keep k3 id
    have br3 := br2.keep k3 id
    have hK3 := keepN hK2 k3
    have f0 := fun i => br3.frozen i
    obtain ⟨c0, c1, c2, c3, c4, c5, c6, c7, c8⟩ := blk9 br3
    have hz3 := br3.lt
    clear k3 b2 br2 hK2 bx2
    go_wp2
    exact bodyPost_ret (v := .tuple #[rowV row0, .bool false]) (by simp [results, Tryz.results146, go_sem, c0, c1, c2, c3, c4, c5, c6, c7, c8, row0]) rfl ⟨rfl, keep9 hK3 (Nat.le_succ _) _ _ _ _ _ _ _ _ _⟩

set_option maxRecDepth 100000 in
set_option maxHeartbeats 1000000 in
theorem rowFor_c (op a b : Int) (q : Row) (w : World) (HQ : Hid (rowAt op = q)) (HI : Hid (isOp op = true)) (HA : Hid (inK q.ka a = true)) (HB : Hid (inK q.kb b = false)) (hka : 0 ≤ q.ka ∧ q.ka ≤ 10) (hkb : 0 ≤ q.kb ∧ q.kb ≤ 10) :
    Calls Tryz.prog 146 #[instV op a b] w (ForR row0 false w) := by
  go_enter Tryz.func146, Tryz.ntmps146
  go_wp2_with fail
  refine (rowOf_any op q _ HQ).mono ?_
  rw [HI.out]
  rintro e w1 ⟨rfl, k1⟩
  have bx := ((Blk.new w 74 #[.int .i64 op, .int .i64 a, .int .i64 b]).alloc (.cells rowZ 200)).keep k1 id
  have br := (Blk.new (w.alloc (.cells #[.int .i64 op, .int .i64 a, .int .i64 b] 74)) 200 rowZ).keep k1 id
  rw [World.size_alloc] at br
  have hK := keepN (((Keep.refl NoB w).alloc _).alloc _) k1
  have hz := br.lt
  go_wp2_with fail
  have b2 := Blk.new w1 200 #[.string (str q.name), .int .i64 q.ka, .int .i64 q.kb, .int .i64 q.ta, .int .i64 q.tb, .int .i64 q.la, .int .i64 q.lb, .bool q.hop, .bool q.fin]
  have bx2 := bx.alloc (.cells #[.string (str q.name), .int .i64 q.ka, .int .i64 q.kb, .int .i64 q.ta, .int .i64 q.tb, .int .i64 q.la, .int .i64 q.lb, .bool q.hop, .bool q.fin] 200)
  have br2 := br.alloc (.cells #[.string (str q.name), .int .i64 q.ka, .int .i64 q.kb, .int .i64 q.ta, .int .i64 q.tb, .int .i64 q.la, .int .i64 q.lb, .bool q.hop, .bool q.fin] 200)
  have hK2 := hK.alloc (.cells #[.string (str q.name), .int .i64 q.ka, .int .i64 q.kb, .int .i64 q.ta, .int .i64 q.tb, .int .i64 q.la, .int .i64 q.lb, .bool q.hop, .bool q.fin] 200)
  obtain ⟨w2, hw2⟩ : ∃ w2, w1.alloc (.cells #[.string (str q.name), .int .i64 q.ka, .int .i64 q.kb, .int .i64 q.ta, .int .i64 q.tb, .int .i64 q.la, .int .i64 q.lb, .bool q.hop, .bool q.fin] 200) = w2 := ⟨_, rfl⟩
  rw [hw2] at b2 bx2 br2 hK2
  have HW := Lib.hid hw2
  rw [hw2]
  clear hw2 bx br hK k1
  · refine wp_region_sh ((0, false) :: (1, false) :: (2, false) :: (3, false) :: (4, false) :: (5, false) :: (7, false) :: (8, false) :: (6, true) :: (9, false) :: (10, false) :: (11, false) :: (12, false) :: (13, false) :: (14, false) :: (15, false) :: (17, false) :: (18, false) :: (16, true) :: (19, false) :: (20, false) :: (21, false) :: []) (fun w' => Keep NoB w2 w') (by kernel_rfl) (by kernel_rfl) (by rfl) (by kernel_rfl) (stable_keep w2) (Keep.refl NoB w2).drew ?_
    refine shM_step rfl rfl rfl (by rfl) (by rfl) ?_
    apply Exists.intro
    refine ⟨fun n K hK => ?_, ?_, ?_⟩
    · go_big_quiet_op
      exact hK _ rfl
    · kernel_rfl
    refine shM_step rfl rfl rfl (by rfl) (by rfl) ?_
    apply Exists.intro
    refine ⟨fun n K hK => ?_, ?_, ?_⟩
    · go_big_quiet_op
      exact hK _ rfl
    · kernel_rfl
    refine shM_step rfl rfl rfl (by rfl) (by rfl) ?_
    apply Exists.intro
    refine ⟨fun n K hK => ?_, ?_, ?_⟩
    · go_big_quiet_op
      exact hK _ rfl
    · kernel_rfl
    refine shM_step rfl rfl rfl (by rfl) (by rfl) ?_
    apply Exists.intro
    refine ⟨fun n K hK => ?_, ?_, ?_⟩
    · go_big_quiet_op
      exact hK _ rfl
    · kernel_rfl
    refine shM_step rfl rfl rfl (by rfl) (by rfl) ?_
    apply Exists.intro
    refine ⟨fun n K hK => ?_, ?_, ?_⟩
    · go_big_quiet_op
      exact hK _ rfl
    · kernel_rfl
    refine shM_step rfl rfl rfl (by rfl) (by rfl) ?_
    apply Exists.intro
    refine ⟨fun n K hK => ?_, ?_, ?_⟩
    · have q1 : ∀ m : KW n.w, m.w.cell? ⟨w1.heap.size, 1, none⟩ = some (.int .i64 q.ka) := fun m => (b2.keep (keepN n.has m.keep) id).cell 1
      go_big_quiet_op
      exact hK _ rfl
    · kernel_rfl
    refine shM_step rfl rfl rfl (by rfl) (by rfl) ?_
    apply Exists.intro
    refine ⟨fun n K hK => ?_, ?_, ?_⟩
    · go_big_quiet_op
      exact hK _ rfl
    · kernel_rfl
    refine shM_step rfl rfl rfl (by rfl) (by rfl) ?_
    apply Exists.intro
    refine ⟨fun n K hK => ?_, ?_, ?_⟩
    · have x1 : ∀ m : KW n.w, m.w.cell? ⟨w.heap.size, 1, none⟩ = some (.int .i64 a) := fun m => (bx2.keep (keepN n.has m.keep) id).cell 1
      go_big_quiet_op
      exact hK _ rfl
    · kernel_rfl
    refine shM_gen rfl rfl (by kernel_rfl) (fun v _ => ∃ sh gu, v = opV q.ka sh gu) (fun v w w' h _ => h) (fun n => ?_) (fun v1 => ?_)
    · unfold yieldsK
      go_simp
      exact op_gen q.ka hka _
    simp only [Act.put, List.setIfInBounds_toArray, List.set_cons_zero, List.set_cons_succ]
    refine shM_step rfl rfl rfl (by rfl) (by rfl) ?_
    apply Exists.intro
    refine ⟨fun n K hK => ?_, ?_, ?_⟩
    · go_big_quiet_op
      apply Exists.intro
      refine ⟨fun m => ?_, ?_⟩
      · go_at_call 168
        exact kept_of (has_gen q.ka a v1 true _ HA.out n.has.2)
      · exact hK _ rfl
    · kernel_rfl
    refine shM_step rfl rfl rfl (by rfl) (by rfl) ?_
    apply Exists.intro
    refine ⟨fun n K hK => ?_, ?_, ?_⟩
    · go_big_quiet_op
      exact hK _ rfl
    · kernel_rfl
    refine shM_step rfl rfl rfl (by rfl) (by rfl) ?_
    apply Exists.intro
    refine ⟨fun n K hK => ?_, ?_, ?_⟩
    · go_big_quiet_op
      exact hK _ rfl
    · kernel_rfl
    refine shM_step rfl rfl rfl (by rfl) (by rfl) ?_
    apply Exists.intro
    refine ⟨fun n K hK => ?_, ?_, ?_⟩
    · go_big_quiet_op
      exact hK _ rfl
    · kernel_rfl
    refine shM_step rfl rfl rfl (by rfl) (by rfl) ?_
    apply Exists.intro
    refine ⟨fun n K hK => ?_, ?_, ?_⟩
    · go_big_quiet_op
      exact hK _ rfl
    · kernel_rfl
    refine shM_step rfl rfl rfl (by rfl) (by rfl) ?_
    apply Exists.intro
    refine ⟨fun n K hK => ?_, ?_, ?_⟩
    · go_big_quiet_op
      exact hK _ rfl
    · kernel_rfl
    refine shM_step rfl rfl rfl (by rfl) (by rfl) ?_
    apply Exists.intro
    refine ⟨fun n K hK => ?_, ?_, ?_⟩
    · have q1 : ∀ m : KW n.w, m.w.cell? ⟨w1.heap.size, 2, none⟩ = some (.int .i64 q.kb) := fun m => (b2.keep (keepN n.has.1 m.keep) id).cell 2
      go_big_quiet_op
      exact hK _ rfl
    · kernel_rfl
    refine shM_step rfl rfl rfl (by rfl) (by rfl) ?_
    apply Exists.intro
    refine ⟨fun n K hK => ?_, ?_, ?_⟩
    · go_big_quiet_op
      exact hK _ rfl
    · kernel_rfl
    refine shM_step rfl rfl rfl (by rfl) (by rfl) ?_
    apply Exists.intro
    refine ⟨fun n K hK => ?_, ?_, ?_⟩
    · have x1 : ∀ m : KW n.w, m.w.cell? ⟨w.heap.size, 2, none⟩ = some (.int .i64 b) := fun m => (bx2.keep (keepN n.has.1 m.keep) id).cell 2
      go_big_quiet_op
      exact hK _ rfl
    · kernel_rfl
    refine shM_gen rfl rfl (by kernel_rfl) (fun v _ => ∃ sh gu, v = opV q.kb sh gu) (fun v w w' h _ => h) (fun n => ?_) (fun v2 => ?_)
    · unfold yieldsK
      go_simp
      exact op_gen q.kb hkb _
    simp only [Act.put, List.setIfInBounds_toArray, List.set_cons_zero, List.set_cons_succ]
    refine shM_step rfl rfl rfl (by rfl) (by rfl) ?_
    apply Exists.intro
    refine ⟨fun n K hK => ?_, ?_, ?_⟩
    · go_big_quiet_op
      apply Exists.intro
      refine ⟨fun m => ?_, ?_⟩
      · go_at_call 168
        exact kept_of (has_gen q.kb b v2 false _ HB.out n.has.2)
      · exact hK _ rfl
    · kernel_rfl
    refine shM_step rfl rfl rfl (by rfl) (by rfl) ?_
    apply Exists.intro
    refine ⟨fun n K hK => ?_, ?_, ?_⟩
    · go_big_quiet_op
      exact hK _ rfl
    · kernel_rfl
    refine shM_step rfl rfl rfl (by rfl) (by rfl) ?_
    apply Exists.intro
    refine ⟨fun n K hK => ?_, ?_, ?_⟩
    · go_big_quiet_op
      exact hK _ rfl
    · kernel_rfl
    refine shM_nil (fun n => ?_)
    have k3 := n.has.1.1
    generalize n.w = w3 at k3 ⊢
    have b3 := b2.keep k3 id
    have br3 := br2.keep k3 id
    have hK3 := keepN hK2 k3
    have f0 := fun i => br3.frozen i
    obtain ⟨c0, c1, c2, c3, c4, c5, c6, c7, c8⟩ := blk9 br3
    have hz3 := br3.lt
    clear k3 b2 br2 hK2 bx2
    go_wp2
    exact bodyPost_ret (v := .tuple #[rowV row0, .bool false]) (by simp [results, Tryz.results146, go_sem, c0, c1, c2, c3, c4, c5, c6, c7, c8, row0]) rfl ⟨rfl, keep9 hK3 (Nat.le_succ _) _ _ _ _ _ _ _ _ _⟩

set_option maxRecDepth 100000 in
set_option maxHeartbeats 1000000 in
theorem rowFor_d (op a b : Int) (q : Row) (w : World) (HQ : Hid (rowAt op = q)) (HI : Hid (isOp op = true)) (HA : Hid (inK q.ka a = true)) (HB : Hid (inK q.kb b = true)) (hka : 0 ≤ q.ka ∧ q.ka ≤ 10) (hkb : 0 ≤ q.kb ∧ q.kb ≤ 10) :
    Calls Tryz.prog 146 #[instV op a b] w (ForR q true w) := by
  go_enter Tryz.func146, Tryz.ntmps146
  go_wp2_with fail
  refine (rowOf_any op q _ HQ).mono ?_
  rw [HI.out]
  rintro e w1 ⟨rfl, k1⟩
  have bx := ((Blk.new w 74 #[.int .i64 op, .int .i64 a, .int .i64 b]).alloc (.cells rowZ 200)).keep k1 id
  have br := (Blk.new (w.alloc (.cells #[.int .i64 op, .int .i64 a, .int .i64 b] 74)) 200 rowZ).keep k1 id
  rw [World.size_alloc] at br
  have hK := keepN (((Keep.refl NoB w).alloc _).alloc _) k1
  have hz := br.lt
  go_wp2_with fail
  have b2 := Blk.new w1 200 #[.string (str q.name), .int .i64 q.ka, .int .i64 q.kb, .int .i64 q.ta, .int .i64 q.tb, .int .i64 q.la, .int .i64 q.lb, .bool q.hop, .bool q.fin]
  have bx2 := bx.alloc (.cells #[.string (str q.name), .int .i64 q.ka, .int .i64 q.kb, .int .i64 q.ta, .int .i64 q.tb, .int .i64 q.la, .int .i64 q.lb, .bool q.hop, .bool q.fin] 200)
  have br2 := br.alloc (.cells #[.string (str q.name), .int .i64 q.ka, .int .i64 q.kb, .int .i64 q.ta, .int .i64 q.tb, .int .i64 q.la, .int .i64 q.lb, .bool q.hop, .bool q.fin] 200)
  have hK2 := hK.alloc (.cells #[.string (str q.name), .int .i64 q.ka, .int .i64 q.kb, .int .i64 q.ta, .int .i64 q.tb, .int .i64 q.la, .int .i64 q.lb, .bool q.hop, .bool q.fin] 200)
  obtain ⟨w2, hw2⟩ : ∃ w2, w1.alloc (.cells #[.string (str q.name), .int .i64 q.ka, .int .i64 q.kb, .int .i64 q.ta, .int .i64 q.tb, .int .i64 q.la, .int .i64 q.lb, .bool q.hop, .bool q.fin] 200) = w2 := ⟨_, rfl⟩
  rw [hw2] at b2 bx2 br2 hK2
  have HW := Lib.hid hw2
  rw [hw2]
  clear hw2 bx br hK k1
  · refine wp_region_sh ((0, false) :: (1, false) :: (2, false) :: (3, false) :: (4, false) :: (5, false) :: (7, false) :: (8, false) :: (6, true) :: (9, false) :: (10, false) :: (11, false) :: (12, false) :: (13, false) :: (14, false) :: (15, false) :: (17, false) :: (18, false) :: (16, true) :: (19, false) :: (20, false) :: (21, false) :: []) (fun w' => Keep NoB w2 w') (by kernel_rfl) (by kernel_rfl) (by rfl) (by kernel_rfl) (stable_keep w2) (Keep.refl NoB w2).drew ?_
    refine shM_step rfl rfl rfl (by rfl) (by rfl) ?_
    apply Exists.intro
    refine ⟨fun n K hK => ?_, ?_, ?_⟩
    · go_big_quiet_op
      exact hK _ rfl
    · kernel_rfl
    refine shM_step rfl rfl rfl (by rfl) (by rfl) ?_
    apply Exists.intro
    refine ⟨fun n K hK => ?_, ?_, ?_⟩
    · go_big_quiet_op
      exact hK _ rfl
    · kernel_rfl
    refine shM_step rfl rfl rfl (by rfl) (by rfl) ?_
    apply Exists.intro
    refine ⟨fun n K hK => ?_, ?_, ?_⟩
    · go_big_quiet_op
      exact hK _ rfl
    · kernel_rfl
    refine shM_step rfl rfl rfl (by rfl) (by rfl) ?_
    apply Exists.intro
    refine ⟨fun n K hK => ?_, ?_, ?_⟩
    · go_big_quiet_op
      exact hK _ rfl
    · kernel_rfl
    refine shM_step rfl rfl rfl (by rfl) (by rfl) ?_
    apply Exists.intro
    refine ⟨fun n K hK => ?_, ?_, ?_⟩
    · go_big_quiet_op
      exact hK _ rfl
    · kernel_rfl
    refine shM_step rfl rfl rfl (by rfl) (by rfl) ?_
    apply Exists.intro
    refine ⟨fun n K hK => ?_, ?_, ?_⟩
    · have q1 : ∀ m : KW n.w, m.w.cell? ⟨w1.heap.size, 1, none⟩ = some (.int .i64 q.ka) := fun m => (b2.keep (keepN n.has m.keep) id).cell 1
      go_big_quiet_op
      exact hK _ rfl
    · kernel_rfl
    refine shM_step rfl rfl rfl (by rfl) (by rfl) ?_
    apply Exists.intro
    refine ⟨fun n K hK => ?_, ?_, ?_⟩
    · go_big_quiet_op
      exact hK _ rfl
    · kernel_rfl
    refine shM_step rfl rfl rfl (by rfl) (by rfl) ?_
    apply Exists.intro
    refine ⟨fun n K hK => ?_, ?_, ?_⟩
    · have x1 : ∀ m : KW n.w, m.w.cell? ⟨w.heap.size, 1, none⟩ = some (.int .i64 a) := fun m => (bx2.keep (keepN n.has m.keep) id).cell 1
      go_big_quiet_op
      exact hK _ rfl
    · kernel_rfl
    refine shM_gen rfl rfl (by kernel_rfl) (fun v _ => ∃ sh gu, v = opV q.ka sh gu) (fun v w w' h _ => h) (fun n => ?_) (fun v1 => ?_)
    · unfold yieldsK
      go_simp
      exact op_gen q.ka hka _
    simp only [Act.put, List.setIfInBounds_toArray, List.set_cons_zero, List.set_cons_succ]
    refine shM_step rfl rfl rfl (by rfl) (by rfl) ?_
    apply Exists.intro
    refine ⟨fun n K hK => ?_, ?_, ?_⟩
    · go_big_quiet_op
      apply Exists.intro
      refine ⟨fun m => ?_, ?_⟩
      · go_at_call 168
        exact kept_of (has_gen q.ka a v1 true _ HA.out n.has.2)
      · exact hK _ rfl
    · kernel_rfl
    refine shM_step rfl rfl rfl (by rfl) (by rfl) ?_
    apply Exists.intro
    refine ⟨fun n K hK => ?_, ?_, ?_⟩
    · go_big_quiet_op
      exact hK _ rfl
    · kernel_rfl
    refine shM_step rfl rfl rfl (by rfl) (by rfl) ?_
    apply Exists.intro
    refine ⟨fun n K hK => ?_, ?_, ?_⟩
    · go_big_quiet_op
      exact hK _ rfl
    · kernel_rfl
    refine shM_step rfl rfl rfl (by rfl) (by rfl) ?_
    apply Exists.intro
    refine ⟨fun n K hK => ?_, ?_, ?_⟩
    · go_big_quiet_op
      exact hK _ rfl
    · kernel_rfl
    refine shM_step rfl rfl rfl (by rfl) (by rfl) ?_
    apply Exists.intro
    refine ⟨fun n K hK => ?_, ?_, ?_⟩
    · go_big_quiet_op
      exact hK _ rfl
    · kernel_rfl
    refine shM_step rfl rfl rfl (by rfl) (by rfl) ?_
    apply Exists.intro
    refine ⟨fun n K hK => ?_, ?_, ?_⟩
    · go_big_quiet_op
      exact hK _ rfl
    · kernel_rfl
    refine shM_step rfl rfl rfl (by rfl) (by rfl) ?_
    apply Exists.intro
    refine ⟨fun n K hK => ?_, ?_, ?_⟩
    · have q1 : ∀ m : KW n.w, m.w.cell? ⟨w1.heap.size, 2, none⟩ = some (.int .i64 q.kb) := fun m => (b2.keep (keepN n.has.1 m.keep) id).cell 2
      go_big_quiet_op
      exact hK _ rfl
    · kernel_rfl
    refine shM_step rfl rfl rfl (by rfl) (by rfl) ?_
    apply Exists.intro
    refine ⟨fun n K hK => ?_, ?_, ?_⟩
    · go_big_quiet_op
      exact hK _ rfl
    · kernel_rfl
    refine shM_step rfl rfl rfl (by rfl) (by rfl) ?_
    apply Exists.intro
    refine ⟨fun n K hK => ?_, ?_, ?_⟩
    · have x1 : ∀ m : KW n.w, m.w.cell? ⟨w.heap.size, 2, none⟩ = some (.int .i64 b) := fun m => (bx2.keep (keepN n.has.1 m.keep) id).cell 2
      go_big_quiet_op
      exact hK _ rfl
    · kernel_rfl
    refine shM_gen rfl rfl (by kernel_rfl) (fun v _ => ∃ sh gu, v = opV q.kb sh gu) (fun v w w' h _ => h) (fun n => ?_) (fun v2 => ?_)
    · unfold yieldsK
      go_simp
      exact op_gen q.kb hkb _
    simp only [Act.put, List.setIfInBounds_toArray, List.set_cons_zero, List.set_cons_succ]
    refine shM_step rfl rfl rfl (by rfl) (by rfl) ?_
    apply Exists.intro
    refine ⟨fun n K hK => ?_, ?_, ?_⟩
    · go_big_quiet_op
      apply Exists.intro
      refine ⟨fun m => ?_, ?_⟩
      · go_at_call 168
        exact kept_of (has_gen q.kb b v2 true _ HB.out n.has.2)
      · exact hK _ rfl
    · kernel_rfl
    refine shM_step rfl rfl rfl (by rfl) (by rfl) ?_
    apply Exists.intro
    refine ⟨fun n K hK => ?_, ?_, ?_⟩
    · go_big_quiet_op
      exact hK _ rfl
    · kernel_rfl
    refine shM_step rfl rfl rfl (by rfl) (by rfl) ?_
    apply Exists.intro
    refine ⟨fun n K hK => ?_, ?_, ?_⟩
    · go_big_quiet_op
      exact hK _ rfl
    · kernel_rfl
    refine shM_nil (fun n => ?_)
    have k3 := n.has.1.1
    generalize n.w = w3 at k3 ⊢
    have b3 := b2.keep k3 id
    have br3 := br2.keep k3 id
    have hK3 := keepN hK2 k3
    have f0 := fun i => br3.frozen i
    obtain ⟨c0, c1, c2, c3, c4, c5, c6, c7, c8⟩ := blk9 br3
    obtain ⟨d0, d1, d2, d3, d4, d5, d6, d7, d8⟩ := blk9 b3
    have hz3 := br3.lt
    clear k3 b2 br2 hK2 bx2
    go_wp2
    exact bodyPost_ret (v := .tuple #[rowV q, .bool true]) (by simp [results, Tryz.results146, go_sem, c0, c1, c2, c3, c4, c5, c6, c7, c8]) rfl ⟨rfl, keep9 hK3 (Nat.le_succ _) _ _ _ _ _ _ _ _ _⟩

theorem rowFor_any (op a b : Int) (r : Row) (w : World) (hr : Hid (rowR op a b = r)) : Calls Tryz.prog 146 #[instV op a b] w (ForR r (okI op a b) w) := by
  obtain ⟨h1, h2, h3, h4⟩ := kinds_ok op
  have hr := hr.out
  subst hr
  cases ho : isOp op
  · have hok : okI op a b = false := by unfold okI; rw [ho]; rfl
    rw [rowR_no hok, hok]
    exact rowFor_a op a b _ w rfl ho
  · cases ha : inK (rowAt op).ka a
    · have hok : okI op a b = false := by unfold okI; rw [ho, ha]; rfl
      rw [rowR_no hok, hok]
      exact rowFor_b op a b _ w rfl ho ha ⟨h1, h2⟩
    · cases hb : inK (rowAt op).kb b
      · have hok : okI op a b = false := by unfold okI; rw [ho, ha, hb]; rfl
        rw [rowR_no hok, hok]
        exact rowFor_c op a b _ w rfl ho ha hb ⟨h1, h2⟩ ⟨h3, h4⟩
      · have hok : okI op a b = true := by unfold okI; rw [ho, ha, hb]; rfl
        rw [rowR_ok hok, hok]
        exact rowFor_d op a b _ w rfl ho ha hb ⟨h1, h2⟩ ⟨h3, h4⟩

end Go.Proofs.YtbnekeomdhljhaaGreatDoor.O

namespace Go.Proofs.YtbnekeomdhljhaaGreatDoor.O
open Go.RowKit

def chk (op a b : Int) : Int := if okI op a b = true then 0 else 40
def endsI (op a b : Int) : Bool := (rowR op a b).fin
def goesI (op a b : Int) : Bool := decide ((rowR op a b).ka = 10)
def goesN (op a b : Int) : Int := if goesI op a b = true then a else 0
theorem pr2 {a a' : Int} {b b' : Bool} (h1 : a = a') (h2 : b = b') : Ending.returned (.tuple #[.int .i64 a, .bool b]) = .returned (.tuple #[.int .i64 a', .bool b']) := by rw [h1, h2]

set_option maxHeartbeats 1000000 in
theorem check_any (op a b : Int) (w : World) :
    Calls Tryz.prog 129 #[instV op a b] w fun e w' => e = .returned (.int .i64 (chk op a b)) ∧ Keep NoB w w' := by
  have hK := (Keep.refl NoB w).alloc (.cells #[.int .i64 op, .int .i64 a, .int .i64 b] 74)
  obtain ⟨r, hr⟩ : ∃ r, Hid (rowR op a b = r) := ⟨_, rfl⟩
  have HR := Lib.hid (fun w => rowFor_any op a b r w hr)
  cases hok : okI op a b
  · have HX : Hid (chk op a b = 40) := by show _ = _; unfold chk; rw [if_neg (by rw [hok]; decide)]
    rw [hok] at HR
    clear hok hr
    go_enter Tryz.func129, Tryz.ntmps129
    go_wp2_with fail
    refine (HR.out _).mono ?_
    rintro e w1 ⟨rfl, k1⟩
    go_wp2
    go_ret
    exact ⟨by rw [HX.out]; rfl, (keepN hK k1).alloc _⟩
  · have HX : Hid (chk op a b = 0) := by show _ = _; unfold chk; rw [if_pos hok]
    rw [hok] at HR
    clear hok hr
    go_enter Tryz.func129, Tryz.ntmps129
    go_wp2_with fail
    refine (HR.out _).mono ?_
    rintro e w1 ⟨rfl, k1⟩
    go_wp2
    go_ret
    exact ⟨by rw [HX.out]; rfl, (keepN hK k1).alloc _⟩

set_option maxHeartbeats 1000000 in
theorem ends_any (op a b : Int) (w : World) :
    Calls Tryz.prog 127 #[instV op a b] w fun e w' => e = .returned (.bool (endsI op a b)) ∧ Keep NoB w w' := by
  have hK := (Keep.refl NoB w).alloc (.cells #[.int .i64 op, .int .i64 a, .int .i64 b] 74)
  obtain ⟨r, hr⟩ : ∃ r, Hid (rowR op a b = r) := ⟨_, rfl⟩
  have HR := Lib.hid (fun w => rowFor_any op a b r w hr)
  have HX : Hid (endsI op a b = r.fin) := by show _ = _; unfold endsI; rw [hr.out]
  clear hr
  go_enter Tryz.func127, Tryz.ntmps127
  go_wp2_with fail
  refine (HR.out _).mono ?_
  rintro e w1 ⟨rfl, k1⟩
  go_wp2
  go_ret
  exact ⟨by rw [HX.out]; rfl, (keepN hK k1).alloc _⟩

set_option maxHeartbeats 1000000 in
theorem goes_any (op a b : Int) (w : World) :
    Calls Tryz.prog 128 #[instV op a b] w fun e w' => e = .returned (.tuple #[.int .i64 (goesN op a b), .bool (goesI op a b)]) ∧ Keep NoB w w' := by
  have hB := Blk.new w 74 #[.int .i64 op, .int .i64 a, .int .i64 b]
  have hK := (Keep.refl NoB w).alloc (.cells #[.int .i64 op, .int .i64 a, .int .i64 b] 74)
  obtain ⟨r, hr⟩ : ∃ r, Hid (rowR op a b = r) := ⟨_, rfl⟩
  have HR := Lib.hid (fun w => rowFor_any op a b r w hr)
  by_cases hg : r.ka = 10
  · have h1 : goesI op a b = true := decide_eq_true (by rw [hr.out]; exact hg)
    have HX : Hid (goesN op a b = a ∧ goesI op a b = true) := ⟨by unfold goesN; rw [if_pos h1], h1⟩
    have hq : (r.ka != 10) = false := by rw [bne_eq_false_iff_eq]; exact hg
    clear hg h1 hr
    go_enter Tryz.func128, Tryz.ntmps128
    go_wp2_with fail
    refine (HR.out _).mono ?_
    rintro e w1 ⟨rfl, k1⟩
    have b1 := hB.keep k1 id
    have c1 : w1.cell? ⟨w.heap.size, 1, none⟩ = some (.int .i64 a) := b1.cell 1
    have hz := b1.lt
    have c2 : ∀ o, (w1.alloc o).cell? ⟨w.heap.size, 1, none⟩ = some (.int .i64 a) := fun o => (World.cell?_alloc_lt _ _ _ hz).trans c1
    go_wp2
    go_ret2
    exact ⟨pr2 HX.out.1.symm HX.out.2.symm, (keepN hK k1).alloc _⟩
  · have h1 : goesI op a b = false := decide_eq_false (by rw [hr.out]; exact hg)
    have HX : Hid (goesN op a b = 0 ∧ goesI op a b = false) := ⟨by unfold goesN; rw [if_neg (by rw [h1]; decide)], h1⟩
    have hq : (r.ka != 10) = true := by rw [bne_iff_ne]; exact hg
    clear hg h1 hr
    go_enter Tryz.func128, Tryz.ntmps128
    go_wp2_with fail
    refine (HR.out _).mono ?_
    rintro e w1 ⟨rfl, k1⟩
    go_wp2
    go_ret2
    exact ⟨pr2 HX.out.1.symm HX.out.2.symm, (keepN hK k1).alloc _⟩

set_option maxHeartbeats 1000000 in
theorem kinds_any (op : Int) (w : World) :
    Calls Tryz.prog 155 #[.int .i64 op] w fun e w' => e = .returned (.tuple #[.int .i64 (rowAt op).ka, .int .i64 (rowAt op).kb]) ∧ Keep NoB w w' := by
  obtain ⟨r, hr⟩ : ∃ r, Hid (rowAt op = r) := ⟨_, rfl⟩
  have HR := Lib.hid (fun w => rowOf_any op r w hr)
  rw [hr.out]
  clear hr
  go_enter Tryz.func155, Tryz.ntmps155
  go_wp2_with fail
  refine (HR.out _).mono ?_
  rintro e w1 ⟨rfl, k1⟩
  have b2 := Blk.new w1 200 (cells9 r)
  go_wp2
  go_quiet (fail)
  go_wp2
  go_ret2
  exact ⟨rfl, (k1.alloc _).drewN _⟩

end Go.Proofs.YtbnekeomdhljhaaGreatDoor.O

namespace Go.Proofs.YtbnekeomdhljhaaGreatDoor.C
open Go.RowKit O

/-- An instruction: its op, and its operands. -/
abbrev I3 := Int × Int × Int
/-- Instructions as cells. -/
def iis (l : List I3) : List Value := l.flatMap fun x => [.int .i64 x.1, .int .i64 x.2.1, .int .i64 x.2.2]
theorem iis_nil : iis [] = [] := rfl
theorem iis_cons (x : I3) (l : List I3) : iis (x :: l) = [.int .i64 x.1, .int .i64 x.2.1, .int .i64 x.2.2] ++ iis l := by unfold iis; rw [List.flatMap_cons]
theorem iis_append (l r : List I3) : iis (l ++ r) = iis l ++ iis r := by unfold iis; rw [List.flatMap_append]
theorem iis_one (x : I3) : iis [x] = [.int .i64 x.1, .int .i64 x.2.1, .int .i64 x.2.2] := rfl
theorem iis_length (l : List I3) : (iis l).length = l.length * 3 := by
  induction l with
  | nil => rfl
  | cons v l ih => rw [iis_cons, List.length_append, ih]; simp; omega
theorem iis_at : ∀ (l : List I3) (i : Nat) (h : i < l.length), (iis l)[i * 3]? = some (.int .i64 l[i].1) ∧ (iis l)[i * 3 + 1]? = some (.int .i64 l[i].2.1) ∧ (iis l)[i * 3 + 2]? = some (.int .i64 l[i].2.2)
  | v :: l, 0, _ => by rw [iis_cons]; exact ⟨rfl, rfl, rfl⟩
  | v :: l, i + 1, h => by
    have := iis_at l i (by simpa using h)
    rw [iis_cons, show (i + 1) * 3 = i * 3 + 3 by omega]
    exact ⟨by simpa using this.1, by simpa using this.2.1, by simpa using this.2.2⟩
theorem iis_cells (l : List I3) : ∀ u ∈ iis l, u.oneCell' = true := by
  intro u hu
  obtain ⟨b, _, hb⟩ := List.mem_flatMap.1 hu
  rcases List.mem_cons.1 hb with rfl | hb
  · rfl
  · rcases List.mem_cons.1 hb with rfl | hb
    · rfl
    · rw [List.mem_singleton.1 hb]; rfl
theorem iis_take (l : List I3) (k : Nat) : (iis l).take (k * 3) = iis (l.take k) := by
  induction l generalizing k with
  | nil => simp [iis]
  | cons x l ih =>
    cases k with
    | zero => simp [iis]
    | succ k => rw [iis_cons, show (k + 1) * 3 = [Value.int .i64 x.1, .int .i64 x.2.1, .int .i64 x.2.2].length + k * 3 by simp; omega, List.take_length_add_append, ih, List.take_succ_cons, iis_cons]
theorem iis_drop (l : List I3) (k : Nat) : (iis l).drop (k * 3) = iis (l.drop k) := by
  induction l generalizing k with
  | nil => simp [iis]
  | cons x l ih =>
    cases k with
    | zero => simp
    | succ k => rw [iis_cons, show (k + 1) * 3 = [Value.int .i64 x.1, .int .i64 x.2.1, .int .i64 x.2.2].length + k * 3 by simp; omega, List.drop_length_add_append, ih, List.drop_succ_cons]
theorem rdJ_at {w : World} {A : Option Addr} {l : List I3} (h : Rd w A (iis l)) (h0 : 0 < l.length) : ∃ g off, A = some ⟨g, off, none⟩ ∧
    ∀ (i : Nat) (hi : i < l.length), w.cell? ⟨g, off + i * 3, none⟩ = some (.int .i64 l[i].1) ∧ w.cell? ⟨g, off + i * 3 + 1, none⟩ = some (.int .i64 l[i].2.1) ∧ w.cell? ⟨g, off + i * 3 + 2, none⟩ = some (.int .i64 l[i].2.2) := by
  obtain ⟨g, off, e, hc⟩ := h (by rw [iis_length]; omega)
  refine ⟨g, off, e, fun i hi => ?_⟩
  obtain ⟨h1, h2, h3⟩ := iis_at l i hi
  exact ⟨hc _ _ h1, hc _ _ h2, hc _ _ h3⟩

/-- May it be; does it end; does it go, and where to? -/
def ok1 (x : I3) : Bool := okI x.1 x.2.1 x.2.2
def eB (x : I3) : Bool := endsI x.1 x.2.1 x.2.2
def gB (x : I3) : Bool := goesI x.1 x.2.1 x.2.2
def gN (x : I3) : Int := goesN x.1 x.2.1 x.2.2
theorem gB_ka {x : I3} (h : gB x = true) : ok1 x = true ∧ (O.rowAt x.1).ka = 10 := by
  have h := of_decide_eq_true h
  cases hk : okI x.1 x.2.1 x.2.2
  · rw [rowR_no hk] at h; exact absurd h (by decide)
  · rw [rowR_ok hk] at h; exact ⟨hk, h⟩
theorem ka_gB {x : I3} (h : ok1 x = true) (hk : (O.rowAt x.1).ka = 10) : gB x = true := by
  unfold gB goesI; rw [rowR_ok h, hk]; rfl
theorem gB_in {x : I3} (h : gB x = true) : 0 ≤ x.2.1 ∧ x.2.1 ≤ 511 := by
  obtain ⟨h1, h2⟩ := gB_ka h
  have h3 := (ok_op h1).2.1
  rw [h2] at h3
  exact of_decide_eq_true h3
theorem gN_yes {x : I3} (h : gB x = true) : gN x = x.2.1 := if_pos h
theorem gN_no {x : I3} (h : gB x = false) : gN x = 0 := if_neg (by unfold gB at h; rw [h]; decide)
theorem gN_in (x : I3) : 0 ≤ gN x ∧ gN x ≤ 511 := by
  cases h : gB x
  · rw [gN_no h]; decide
  · rw [gN_yes h]; exact gB_in h
/-- One that goes may go anywhere. -/
theorem gB_put {x : I3} (h : gB x = true) {a : Int} (h0 : 0 ≤ a) (h1 : a ≤ 511) : gB (x.1, a, x.2.2) = true := by
  obtain ⟨hk, he⟩ := gB_ka h
  obtain ⟨p1, p2, p3⟩ := ok_op hk
  refine ka_gB (x := (x.1, a, x.2.2)) ?_ he
  show okI x.1 a x.2.2 = true
  unfold okI
  rw [p1, p3, he]
  simp [inK, lo, hi, h0, h1]

/-- Is a list a body? -/
def itemB (n : Nat) (x : I3) : Bool := ok1 x && decide (gN x < (n : Int))
def lastB (l : List I3) : Bool := match l.getLast? with | some x => eB x | none => false
def okB (l : List I3) : Bool := decide (l.length ≤ 512) && lastB l && l.all (itemB l.length)
def chkB (l : List I3) : Int := if okB l = true then 0 else 50
theorem chkB_ok {l : List I3} (h : okB l = true) : chkB l = 0 := if_pos h
theorem chkB_no {l : List I3} (h : okB l = false) : chkB l = 50 := if_neg (by rw [h]; decide)
theorem okB_parts {l : List I3} (h : okB l = true) : 1 ≤ l.length ∧ l.length ≤ 512 ∧ lastB l = true ∧ l.all (itemB l.length) = true := by
  unfold okB at h
  simp only [Bool.and_eq_true, decide_eq_true_eq] at h
  refine ⟨?_, h.1.1, h.1.2, h.2⟩
  rcases l with _ | ⟨x, l⟩
  · exact absurd h.1.2 (by decide)
  · simp
theorem okB_mk {l : List I3} (h1 : l.length ≤ 512) (h2 : lastB l = true) (h3 : l.all (itemB l.length) = true) : okB l = true := by
  unfold okB; rw [decide_eq_true h1, h2, h3]; rfl
theorem okB_nil : okB [] = false := rfl
theorem okB_long {l : List I3} (h : ¬ l.length ≤ 512) : okB l = false := by unfold okB; rw [decide_eq_false h]; rfl
theorem okB_last {l : List I3} (h : lastB l = false) : okB l = false := by unfold okB; rw [h]; simp
theorem okB_item {l : List I3} (h : l.all (itemB l.length) = false) : okB l = false := by unfold okB; rw [h]; simp
theorem lastB_at {l : List I3} (h : 0 < l.length) : lastB l = eB (l[l.length - 1]'(by omega)) := by
  unfold lastB
  rw [List.getLast?_eq_getElem?, List.getElem?_eq_getElem (by omega)]
theorem item_parts {n : Nat} {x : I3} (h : itemB n x = true) : ok1 x = true ∧ gN x < (n : Int) := by
  unfold itemB at h
  simp only [Bool.and_eq_true, decide_eq_true_eq] at h
  exact h
theorem item_no1 {n : Nat} {x : I3} (h : ok1 x = false) : itemB n x = false := by unfold itemB; rw [h]; rfl
theorem item_no2 {n : Nat} {x : I3} (h : ¬ gN x < (n : Int)) : itemB n x = false := by unfold itemB; rw [decide_eq_false h]; simp
theorem item_yes {n : Nat} {x : I3} (h1 : ok1 x = true) (h2 : gN x < (n : Int)) : itemB n x = true := by unfold itemB; rw [h1, decide_eq_true h2]; rfl
theorem all_no {n : Nat} {l : List I3} {k : Nat} (hk : k < l.length) (h : itemB n l[k] = false) : l.all (itemB n) = false := by
  rw [List.all_eq_false]; exact ⟨_, List.getElem_mem hk, by rw [h]; decide⟩
theorem okB_at {l : List I3} (h : okB l = true) {k : Nat} (hk : k < l.length) : itemB l.length l[k] = true := List.all_eq_true.1 (okB_parts h).2.2.2 _ (List.getElem_mem hk)

/-- A body's bytes. -/
def byt (l : List I3) : List UInt8 := l.flatMap fun x => bytesI x.1 x.2.1 x.2.2
theorem byt_snoc (l : List I3) (x : I3) : byt (l ++ [x]) = byt l ++ bytesI x.1 x.2.1 x.2.2 := by unfold byt; simp
def bytesB (l : List I3) : List UInt8 := V.encL l.length ++ byt l
def encB (l : List I3) : List UInt8 := if okB l = true then bytesB l else []
theorem encI_ok {x : I3} (h : ok1 x = true) : O.encI x.1 x.2.1 x.2.2 = bytesI x.1 x.2.1 x.2.2 := if_pos h

/-- How many have an op. -/
def cntB (l : List I3) (op : Int) : Nat := l.countP fun x => x.1 == op
theorem cntB_snoc (l : List I3) (x : I3) (op : Int) : cntB (l ++ [x]) op = cntB l op + if x.1 == op then 1 else 0 := by
  unfold cntB; rw [List.countP_append, List.countP_singleton]

/-- One whose place is behind another one goes so much farther. -/
def gone (at_ : Int) (by_ : Int) (x : I3) : I3 := if gB x = true ∧ at_ < gN x then (x.1, x.2.1 + by_, x.2.2) else x
def insL (l : List I3) (k : Nat) (x : I3) : List I3 := (l.take k).map (gone k 1) ++ x :: (l.drop k).map (gone k 1)
def delL (l : List I3) (k : Nat) : List I3 := (l.take k).map (gone k (-1)) ++ (l.drop (k + 1)).map (gone k (-1))
theorem insL_length (l : List I3) (k : Nat) (x : I3) : (insL l k x).length = l.length + 1 := by
  unfold insL; simp; omega
theorem delL_length {l : List I3} {k : Nat} (h : k < l.length) : (delL l k).length = l.length - 1 := by
  unfold delL; simp; omega

/-- Is a place of a body a head? -/
def at0 (l : List I3) (i : Nat) : I3 := l.getD i (0, 0, 0)
theorem at0_of {l : List I3} {i : Nat} (h : i < l.length) : at0 l i = l[i] := by unfold at0; simp [List.getD, h]
def headB (l : List I3) (i : Nat) : Bool := decide (i = 0) || eB (at0 l (i - 1)) || gB (at0 l (i - 1)) || l.any fun x => gB x && decide (gN x = (i : Int))
def headsL (l : List I3) : List Nat := (List.range l.length).filter (headB l)
/-- The place behind a stretch's last one. -/
def nextH (l : List I3) (h : Nat) : Nat := ((List.range' (h + 1) (l.length - (h + 1))).find? (headB l)).getD l.length

end Go.Proofs.YtbnekeomdhljhaaGreatDoor.C

namespace Go.Proofs.YtbnekeomdhljhaaGreatDoor.F
open Go.RowKit W

/-- A letter; a digit; a name. -/
def letB (c : UInt8) : Bool := decide ((97 ≤ c.toNat ∧ c.toNat ≤ 122) ∨ (65 ≤ c.toNat ∧ c.toNat ≤ 90))
def digB (c : UInt8) : Bool := decide (48 ≤ c.toNat ∧ c.toNat ≤ 57)
def inB (c : UInt8) : Bool := letB c || digB c
def headB : List UInt8 → Bool
  | [] => false
  | c :: _ => letB c
def okN (s : List UInt8) : Bool := decide (s.length ≤ 32) && (headB s && s.all inB)
def chkN (s : List UInt8) : Int := if okN s = true then 0 else 71
theorem okN_iff (s : List UInt8) : okN s = true ↔ s.length ≤ 32 ∧ headB s = true ∧ s.all inB = true := by unfold okN; rw [Bool.and_eq_true, Bool.and_eq_true, decide_eq_true_iff]
theorem chkN_ok {s : List UInt8} (h : okN s = true) : chkN s = 0 := if_pos h
theorem chkN_no {s : List UInt8} (h : okN s = false) : chkN s = 71 := if_neg (by rw [h]; decide)
theorem okN_nil : okN [] = false := rfl
theorem okN_long {s : List UInt8} (h : ¬ s.length ≤ 32) : okN s = false := by unfold okN; rw [decide_eq_false h]; rfl
theorem okN_head {s : List UInt8} (h : headB s = false) : okN s = false := by unfold okN; rw [h]; simp
theorem okN_in {s : List UInt8} (h : s.all inB = false) : okN s = false := by unfold okN; rw [h]; simp
theorem headB_at {s : List UInt8} (h : 0 < s.length) : headB s = letB s[0] := by
  cases s with
  | nil => simp at h
  | cons c l => rfl
theorem letB_iff (c : UInt8) : letB c = true ↔ (97 ≤ c.toNat ∧ c.toNat ≤ 122) ∨ (65 ≤ c.toNat ∧ c.toNat ≤ 90) := by unfold letB; rw [decide_eq_true_iff]
theorem digB_iff (c : UInt8) : digB c = true ↔ 48 ≤ c.toNat ∧ c.toNat ≤ 57 := by unfold digB; rw [decide_eq_true_iff]

/-- A function. -/
structure Fu where
  nm : List UInt8
  ar : List Int
  rs : List Int
  lc : List Int
  bd : List C.I3
/-- It may be. -/
def okF (f : Fu) : Bool := okN f.nm && (S.okG f.ar f.rs && (f.lc.all knownB && (C.okB f.bd && decide (f.ar.length + f.rs.length + f.lc.length ≤ 64))))
def chkF (f : Fu) : Int := if okF f = true then 0 else 70
theorem okF_iff (f : Fu) : okF f = true ↔ okN f.nm = true ∧ S.okG f.ar f.rs = true ∧ f.lc.all knownB = true ∧ C.okB f.bd = true ∧ f.ar.length + f.rs.length + f.lc.length ≤ 64 := by
  unfold okF; rw [Bool.and_eq_true, Bool.and_eq_true, Bool.and_eq_true, Bool.and_eq_true, decide_eq_true_iff]
theorem chkF_ok {f : Fu} (h : okF f = true) : chkF f = 0 := if_pos h
theorem chkF_no {f : Fu} (h : okF f = false) : chkF f = 70 := if_neg (by rw [h]; decide)
theorem okF_not {f : Fu} (h : ¬ (okN f.nm = true ∧ S.okG f.ar f.rs = true ∧ f.lc.all knownB = true ∧ C.okB f.bd = true ∧ f.ar.length + f.rs.length + f.lc.length ≤ 64)) : okF f = false := by
  cases ho : okF f
  · rfl
  · exact absurd ((okF_iff f).1 ho) h
/-- Locals are checked as the arguments of a signature. -/
theorem okG_one (l : List Int) : S.okG l [] = true ↔ l.length ≤ 64 ∧ l.all knownB = true := by rw [S.okG_iff]; simp

/-- A function's bytes. -/
def bytesF (f : Fu) : List UInt8 := (((V.encL f.nm.length ++ f.nm) ++ S.bytesG f.ar f.rs) ++ S.bytesG f.lc []) ++ C.bytesB f.bd
def encF (f : Fu) : List UInt8 := if okF f = true then bytesF f else []
theorem encF_ok {f : Fu} (h : okF f = true) : encF f = bytesF f := if_pos h
theorem encF_no {f : Fu} (h : okF f = false) : encF f = [] := if_neg (by rw [h]; decide)

/-- Its slots' types; what each is. -/
def sl (f : Fu) : List Int := (f.ar ++ f.rs) ++ f.lc
def slF (f : Fu) : List Int := if okF f = true then sl f else []
def wh (f : Fu) (i : Nat) : Int := if i < f.ar.length then 1 else if i < f.ar.length + f.rs.length then 2 else 3
def ty (f : Fu) (i : Nat) : Int := (sl f)[i]?.getD 0
theorem sl_length (f : Fu) : (sl f).length = f.ar.length + f.rs.length + f.lc.length := by simp [sl]; omega
theorem slF_ok {f : Fu} (h : okF f = true) : slF f = sl f := if_pos h
theorem slF_no {f : Fu} (h : okF f = false) : slF f = [] := if_neg (by rw [h]; decide)
theorem ty_at {f : Fu} {i : Nat} (h : i < (sl f).length) : ty f i = (sl f)[i] := by unfold ty; rw [List.getElem?_eq_getElem h]; rfl
theorem ty_ar {f : Fu} {r : Nat} (h : r < f.ar.length) : ty f r = f.ar[r] ∧ wh f r = 1 := by
  refine ⟨?_, if_pos h⟩
  unfold ty sl
  rw [List.append_assoc, List.getElem?_append_left h, List.getElem?_eq_getElem h]; rfl
theorem ty_rs {f : Fu} {r : Nat} (h : r < f.rs.length) : ty f (f.ar.length + r) = f.rs[r] ∧ wh f (f.ar.length + r) = 2 := by
  constructor
  · unfold ty sl
    rw [List.append_assoc, List.getElem?_append_right (by omega), Nat.add_sub_cancel_left, List.getElem?_append_left h, List.getElem?_eq_getElem h]; rfl
  · unfold wh; rw [if_neg (by omega), if_pos (by omega)]
theorem ty_lc {f : Fu} {r : Nat} (h : r < f.lc.length) : ty f (f.ar.length + f.rs.length + r) = f.lc[r] ∧ wh f (f.ar.length + f.rs.length + r) = 3 := by
  constructor
  · unfold ty sl
    rw [List.getElem?_append_right (by rw [List.length_append]; omega), List.length_append, Nat.add_sub_cancel_left, List.getElem?_eq_getElem h]; rfl
  · unfold wh; rw [if_neg (by omega), if_neg (by omega)]
theorem ty_range (f : Fu) : (List.range (sl f).length).map (ty f) = sl f := by
  apply List.ext_getElem?
  intro i
  by_cases h : i < (sl f).length
  · rw [List.getElem?_map, List.getElem?_range h, List.getElem?_eq_getElem h]; simp [ty_at h]
  · rw [List.getElem?_eq_none (by simp; omega), List.getElem?_eq_none (by omega)]
/-- The slots that are pointers. -/
def ptr (f : Fu) : List Nat := (List.range (sl f).length).filter fun i => ty f i == 4
def ptrF (f : Fu) : List Nat := if okF f = true then ptr f else []
theorem ptrF_ok {f : Fu} (h : okF f = true) : ptrF f = ptr f := if_pos h
theorem ptrF_no {f : Fu} (h : okF f = false) : ptrF f = [] := if_neg (by rw [h]; decide)
/-- No result is a pointer. -/
theorem ptr_held {f : Fu} (h : okF f = true) {i : Nat} (hi : i < (sl f).length) : (ty f i == 4) = ((wh f i == 1 && ty f i == 4) || (wh f i == 3 && ty f i == 4)) := by
  obtain ⟨_, hg, _⟩ := (okF_iff f).1 h
  obtain ⟨_, _, hr⟩ := (S.okG_iff _ _).1 hg
  rw [sl_length] at hi
  by_cases h1 : i < f.ar.length
  · rw [(ty_ar h1).2]; simp
  · by_cases h2 : i < f.ar.length + f.rs.length
    · obtain ⟨r, rfl⟩ : ∃ r, i = f.ar.length + r := ⟨i - f.ar.length, by omega⟩
      have hr' : r < f.rs.length := by omega
      rw [(ty_rs hr').2, (ty_rs hr').1]
      have hh := List.all_eq_true.1 hr _ (List.getElem_mem hr')
      rw [S.held_iff] at hh
      have : (f.rs[r] == 4) = false := by rw [beq_eq_false_iff_ne]; omega
      rw [this]; rfl
    · obtain ⟨r, rfl⟩ : ∃ r, i = f.ar.length + f.rs.length + r := ⟨i - (f.ar.length + f.rs.length), by omega⟩
      rw [(ty_lc (show r < f.lc.length by omega)).2]; simp
/-- What Slot answers. -/
def slW (f : Fu) (i : Int) : Int := if okF f = true ∧ 0 ≤ i ∧ i < (sl f).length then wh f i.toNat else 0
def slT (f : Fu) (i : Int) : Int := if okF f = true ∧ 0 ≤ i ∧ i < (sl f).length then ty f i.toNat else 0
def slE (f : Fu) (i : Int) : Int := if okF f = true ∧ 0 ≤ i ∧ i < (sl f).length then 0 else 72
theorem slot_no {f : Fu} {i : Int} (h : ¬ (okF f = true ∧ 0 ≤ i ∧ i < (sl f).length)) : slW f i = 0 ∧ slT f i = 0 ∧ slE f i = 72 := ⟨if_neg h, if_neg h, if_neg h⟩
theorem slot_yes {f : Fu} {i : Nat} (ho : okF f = true) (h : i < (sl f).length) : slW f i = wh f i ∧ slT f i = ty f i ∧ slE f i = 0 := by
  have h3 : okF f = true ∧ 0 ≤ (i : Int) ∧ (i : Int) < (sl f).length := ⟨ho, by omega, by omega⟩
  exact ⟨if_pos h3, if_pos h3, if_pos h3⟩

/-- Are both the same? -/
def sameF (f g : Fu) : Bool := decide (f.nm = g.nm ∧ (f.ar = g.ar ∧ f.rs = g.rs) ∧ f.lc = g.lc ∧ f.bd = g.bd)
theorem sameF_iff (f g : Fu) : sameF f g = true ↔ f = g := by
  unfold sameF
  rw [decide_eq_true_iff]
  constructor
  · rintro ⟨h1, ⟨h2, h3⟩, h4, h5⟩
    cases f; cases g
    simp only at h1 h2 h3 h4 h5
    subst h1 h2 h3 h4 h5; rfl
  · rintro rfl; exact ⟨rfl, ⟨rfl, rfl⟩, rfl, rfl⟩

end Go.Proofs.YtbnekeomdhljhaaGreatDoor.F

namespace Go.Proofs.YtbnekeomdhljhaaGreatDoor.C
open Go.RowKit O

theorem goes_gen (op a b to : Int) (t : Bool) (w : World) (h1 : goesN op a b = to) (h2 : goesI op a b = t) :
    Calls Tryz.prog 128 #[instV op a b] w fun e w' => e = .returned (.tuple #[.int .i64 to, .bool t]) ∧ Keep NoB w w' := by subst h1 h2; exact goes_any op a b w
theorem ends_gen (op a b : Int) (t : Bool) (w : World) (h : endsI op a b = t) :
    Calls Tryz.prog 127 #[instV op a b] w fun e w' => e = .returned (.bool t) ∧ Keep NoB w w' := by subst h; exact ends_any op a b w
theorem chk_gen (op a b c : Int) (w : World) (h : chk op a b = c) :
    Calls Tryz.prog 129 #[instV op a b] w fun e w' => e = .returned (.int .i64 c) ∧ Keep NoB w w' := by subst h; exact check_any op a b w
theorem blk3 {w : World} {g : Nat} {t : TypeId} {a0 a1 a2 : Value} (h : Blk w g t #[a0, a1, a2]) : w.cell? ⟨g, 0, none⟩ = some a0 ∧ w.cell? ⟨g, 1, none⟩ = some a1 ∧ w.cell? ⟨g, 2, none⟩ = some a2 := ⟨h.cell 0, h.cell 1, h.cell 2⟩

set_option maxRecDepth 100000 in
set_option maxHeartbeats 4000000 in
theorem cchk_any (A : Option Addr) (l : List I3) (n c : Nat) (w : World) (hr : Rd w A (iis l)) (hn : Hid (l.length = n)) (hm : n ≤ 9223372036854775807) (R : Int) (hR : Hid (chkB l = R)) :
    Calls Tryz.prog 73 #[.slice A n c] w fun e w' => e = .returned (.int .i64 R) ∧ Keep NoB w w' := by
  by_cases h0 : n = 0
  · subst h0
    obtain rfl : 50 = R := by rw [← hR.out, List.length_eq_zero_iff.1 hn.out]; rfl
    go_enter Tryz.func73, Tryz.ntmps73
    go_wp2
    go_ret
    exact ⟨rfl, Keep.refl _ _⟩
  have hz : ((n : Int) == 0) = false := by rw [beq_eq_false_iff_ne]; omega
  by_cases h5 : 512 < n
  · obtain rfl : 50 = R := by rw [← hR.out, chkB_no (okB_long (by rw [hn.out]; omega))]
    have hq : decide ((512 : Int) < (n : Int)) = true := by rw [decide_eq_true_iff]; omega
    clear h5 h0
    go_enter Tryz.func73, Tryz.ntmps73
    go_wp2
    go_ret
    exact ⟨rfl, Keep.refl _ _⟩
  have hq : decide ((512 : Int) < (n : Int)) = false := by rw [decide_eq_false_iff_not]; omega
  obtain ⟨m, rfl⟩ : ∃ m, n = m + 1 := ⟨n - 1, by omega⟩
  have hz2 : ((m : Int) + 1 == 0) = false := by rw [beq_eq_false_iff_ne]; omega
  have hq2 : decide ((512 : Int) < (m : Int) + 1) = false := by rw [decide_eq_false_iff_not]; omega
  have hl0 : 0 < l.length := by rw [hn.out]; omega
  obtain ⟨g, off, rfl, hc⟩ := rdJ_at hr hl0
  have hml : m < l.length := by rw [hn.out]; omega
  obtain ⟨c0, c1, c2⟩ := hc m hml
  have HC := Lib.hid hc
  have hlast : Hid (lastB l = eB l[m]) := by
    show _ = _
    rw [lastB_at hl0]
    congr 2
    rw [hn.out]; omega
  clear hc hr h0 h5 hl0
  generalize l[m] = x at c0 c1 c2 hlast
  obtain ⟨op, a, b⟩ := x
  dsimp only at c0 c1 c2
  cases he : endsI op a b
  · obtain rfl : 50 = R := by rw [← hR.out, chkB_no (okB_last (by rw [hlast.out]; exact he))]
    have HE := Lib.hid (fun w => ends_gen op a b _ w he)
    clear he hlast HC hR
    go_enter Tryz.func73, Tryz.ntmps73
    go_wp2_with (go_at_call 127; refine (HE.out _).mono ?_; rintro e w1 ⟨rfl, k1⟩)
    go_ret
    exact ⟨rfl, k1⟩
  have HL : Hid (lastB l = true) := by show _ = _; rw [hlast.out]; exact he
  have HE := Lib.hid (fun w => ends_gen op a b _ w he)
  clear he hlast
  go_enter Tryz.func73, Tryz.ntmps73
  go_wp2_with (go_at_call 127; refine (HE.out _).mono ?_; rintro e w1 ⟨rfl, k1⟩)
  clear c0 c1 c2 HE hml
  go_loopw [27] (fun i wr => ∃ k : Nat, k ≤ m + 1 ∧ i = .int .i64 k ∧ Hid ((l.take k).all (itemB (m + 1)) = true) ∧ Keep NoB w wr) (fun i _ => m + 1 - (intOf i).toNat)
  case atStart => exact ⟨0, Nat.zero_le _, rfl, rfl, k1⟩
  case round =>
    obtain ⟨k, hk, rfl, hall, hK⟩ := hrel
    by_cases hlt : k < m + 1
    · have hkl : k < l.length := by rw [hn.out]; exact hlt
      obtain ⟨d0, d1, d2⟩ := HC.out k hkl
      have c0 := hK.cell d0 id
      have c1 := hK.cell d1 id
      have c2 := hK.cell d2 id
      have HT := Lib.hid (show l.take (k + 1) = l.take k ++ [l[k]] from List.take_succ_eq_append_getElem hkl)
      have HN : Hid (itemB l.length l[k] = false → 50 = R) := fun h => by rw [← hR.out, chkB_no (okB_item (all_no hkl h))]
      rw [hn.out] at HN
      clear d0 d1 d2
      generalize l[k] = x at c0 c1 c2 HT HN
      obtain ⟨op, a, b⟩ := x
      dsimp only at c0 c1 c2
      obtain ⟨to, hto⟩ : ∃ to, goesN op a b = to := ⟨_, rfl⟩
      have hb : 0 ≤ to ∧ to ≤ 511 := by rw [← hto]; exact gN_in (op, a, b)
      have HG := Lib.hid (fun w => goes_gen op a b to _ w hto rfl)
      have bx := Blk.new wr 74 #[.int .i64 op, .int .i64 a, .int .i64 b]
      have gK := hK.alloc (.cells #[.int .i64 op, .int .i64 a, .int .i64 b] 74)
      cases ho : okI op a b
      · obtain rfl := HN.out (item_no1 ho)
        have HO := Lib.hid (fun w => chk_gen op a b 40 w (by unfold chk; rw [ho]; rfl))
        clear ho hto HN HT HL hall hK hR
        go_wp2_with fail
        refine (HG.out _).mono ?_
        rintro e w2 ⟨rfl, k2⟩
        replace bx := bx.keep k2 id
        replace gK := keepN gK k2
        obtain ⟨x0, x1, x2⟩ := blk3 bx
        go_wp2_with (go_at_call 129; refine (HO.out _).mono ?_; rintro e w3 ⟨rfl, k3⟩)
        go_ret
        exact ⟨rfl, keepN gK k3⟩
      have HO := Lib.hid (fun w => chk_gen op a b 0 w (by unfold chk; rw [ho]; rfl))
      by_cases ht : to < ((m + 1 : Nat) : Int)
      · have ht2 : ¬ ((m : Int) + 1 ≤ to) := by omega
        have ha2 : Hid ((l.take (k + 1)).all (itemB (m + 1)) = true) := by
          show _ = _
          rw [HT.out, List.all_append, hall.out]
          simp only [List.all_cons, List.all_nil, Bool.and_true, Bool.true_and]
          exact item_yes ho (by show goesN op a b < _; rw [hto]; exact ht)
        clear ho hto HN HT HL hall hK hR ht
        go_wp2_with fail
        refine (HG.out _).mono ?_
        rintro e w2 ⟨rfl, k2⟩
        replace bx := bx.keep k2 id
        replace gK := keepN gK k2
        obtain ⟨x0, x1, x2⟩ := blk3 bx
        go_wp2_with (go_at_call 129; refine (HO.out _).mono ?_; rintro e w3 ⟨rfl, k3⟩)
        go_roundw
        case rel => exact ⟨k + 1, by omega, by go_num, ha2, keepN gK k3⟩
        case measure => simp [intOf]; omega
      · obtain rfl := HN.out (item_no2 (by show ¬ goesN op a b < _; rw [hto]; exact ht))
        have ht2 : ((m : Int) + 1 ≤ to) := by omega
        clear ho hto HN HT HL hall hK hR ht
        go_wp2_with fail
        refine (HG.out _).mono ?_
        rintro e w2 ⟨rfl, k2⟩
        replace bx := bx.keep k2 id
        replace gK := keepN gK k2
        obtain ⟨x0, x1, x2⟩ := blk3 bx
        go_wp2_with (go_at_call 129; refine (HO.out _).mono ?_; rintro e w3 ⟨rfl, k3⟩)
        go_ret
        exact ⟨rfl, keepN gK k3⟩
    · obtain rfl : 0 = R := by
        rw [← hR.out, chkB_ok (okB_mk (by rw [hn.out]; have := decide_eq_false_iff_not.1 hq; omega) HL.out ?_)]
        have := hall.out
        rw [List.take_of_length_le (by rw [hn.out]; omega)] at this
        rw [hn.out]; exact this
      clear HC hR
      go_wp2
      go_ret
      exact ⟨rfl, hK⟩

end Go.Proofs.YtbnekeomdhljhaaGreatDoor.C

namespace Go.Proofs.YtbnekeomdhljhaaGreatDoor.C
open Go.RowKit O

/-- The slice, if the list is a body; nil, if it is not. -/
def ifV (l : List I3) (v : Value) : Value := if okB l = true then v else .slice none 0 0
theorem ifV_ok {l : List I3} (h : okB l = true) (v : Value) : ifV l v = v := if_pos h
theorem ifV_no {l : List I3} (h : okB l = false) (v : Value) : ifV l v = .slice none 0 0 := if_neg (by rw [h]; decide)

set_option maxRecDepth 100000 in
set_option maxHeartbeats 2000000 in
theorem ifBody_any (A : Option Addr) (l : List I3) (n c : Nat) (w : World) (hr : Rd w A (iis l)) (hn : Hid (l.length = n)) (hm : n ≤ 9223372036854775807) :
    Calls Tryz.prog 115 #[.slice A n c] w fun e w' => e = .returned (.tuple #[ifV l (.slice A n c), .int .i64 (chkB l)]) ∧ Keep NoB w w' := by
  cases ho : okB l
  · rw [ifV_no ho, chkB_no ho]
    have HC := Lib.hid (fun w hr => cchk_any A l n c w hr hn hm 50 (chkB_no ho))
    clear ho
    go_enter Tryz.func115, Tryz.ntmps115
    go_wp2_with (go_at_call 73; refine (HC.out _ hr).mono ?_; rintro e w1 ⟨rfl, k1⟩)
    go_ret2
    exact ⟨rfl, k1⟩
  · rw [ifV_ok ho, chkB_ok ho]
    have HC := Lib.hid (fun w hr => cchk_any A l n c w hr hn hm 0 (chkB_ok ho))
    clear ho
    go_enter Tryz.func115, Tryz.ntmps115
    go_wp2_with (go_at_call 73; refine (HC.out _ hr).mono ?_; rintro e w1 ⟨rfl, k1⟩)
    go_ret2
    exact ⟨rfl, k1⟩

/-- Is it a body that has the place? -/
def hasB (l : List I3) (k : Int) : Bool := decide (0 ≤ k ∧ k < (l.length : Int)) && okB l
theorem hasB_yes {l : List I3} {k : Int} (h : hasB l k = true) : (0 ≤ k ∧ k < (l.length : Int)) ∧ okB l = true := by
  unfold hasB at h; simpa using h

end Go.Proofs.YtbnekeomdhljhaaGreatDoor.C

namespace Go.Proofs.YtbnekeomdhljhaaGreatDoor.O
open Go.RowKit

theorem pr_ii {a b a' b' : Int} (h1 : a = a') (h2 : b = b') : Ending.returned (.tuple #[.int .i64 a, .int .i64 b]) = .returned (.tuple #[.int .i64 a', .int .i64 b']) := by rw [h1, h2]

set_option maxRecDepth 100000 in
set_option maxHeartbeats 4000000 in
theorem rkinds_any (op : Int) (w : World) :
    Calls Tryz.prog 159 #[.int .i64 op] w fun e w' => e = .returned (.tuple #[.int .i64 (rowAt op).ka, .int .i64 (rowAt op).kb]) ∧ w = w' := by
  cases ho : isOp op
  · have hn := isOp_no ho
    rw [rowAt_no ho]
    have h : ∀ k : Int, 0 ≤ k → k < 30 → (op == k) = false := fun k h0 h1 => by rw [beq_eq_false_iff_ne]; intro e; exact hn ⟨by omega, by omega⟩
    have a1 := h 1 (by decide) (by decide); have a2 := h 2 (by decide) (by decide); have a3 := h 3 (by decide) (by decide); have a4 := h 4 (by decide) (by decide)
    have a5 := h 5 (by decide) (by decide); have a8 := h 8 (by decide) (by decide); have a9 := h 9 (by decide) (by decide); have a10 := h 10 (by decide) (by decide)
    have a11 := h 11 (by decide) (by decide); have a15 := h 15 (by decide) (by decide); have a16 := h 16 (by decide) (by decide); have a17 := h 17 (by decide) (by decide)
    have a18 := h 18 (by decide) (by decide); have a19 := h 19 (by decide) (by decide); have a20 := h 20 (by decide) (by decide); have a21 := h 21 (by decide) (by decide)
    have a22 := h 22 (by decide) (by decide); have a23 := h 23 (by decide) (by decide)
    clear h hn ho
    go_enter Tryz.func159, Tryz.ntmps159
    go_wp2
    go_ret2
    exact ⟨pr_ii rfl rfl, rfl⟩
  · have hb := isOp_yes ho
    clear ho
    have hc : op = 0 ∨ op = 1 ∨ op = 2 ∨ op = 3 ∨ op = 4 ∨ op = 5 ∨ op = 6 ∨ op = 7 ∨ op = 8 ∨ op = 9 ∨ op = 10 ∨ op = 11 ∨ op = 12 ∨ op = 13 ∨ op = 14 ∨ op = 15 ∨ op = 16 ∨ op = 17 ∨ op = 18 ∨ op = 19 ∨ op = 20 ∨ op = 21 ∨ op = 22 ∨ op = 23 ∨ op = 24 ∨ op = 25 ∨ op = 26 ∨ op = 27 ∨ op = 28 ∨ op = 29 := by omega
    clear hb
    rcases hc with rfl | rfl | rfl | rfl | rfl | rfl | rfl | rfl | rfl | rfl | rfl | rfl | rfl | rfl | rfl | rfl | rfl | rfl | rfl | rfl | rfl | rfl | rfl | rfl | rfl | rfl | rfl | rfl | rfl | rfl
    all_goals
      go_enter Tryz.func159, Tryz.ntmps159
      go_wp2
      go_ret2
      exact ⟨pr_ii rfl rfl, rfl⟩

set_option maxHeartbeats 1000000 in
theorem rleast_any (k : Int) (w : World) (h0 : 0 ≤ k) (h1 : k ≤ 10) (h2 : k ≠ 1) :
    Calls Tryz.prog 188 #[.int .i64 k] w fun e w' => e = .returned (.int .i64 (lo k)) ∧ w = w' := by
  have hc : k = 0 ∨ k = 2 ∨ k = 3 ∨ k = 4 ∨ k = 5 ∨ k = 6 ∨ k = 7 ∨ k = 8 ∨ k = 9 ∨ k = 10 := by omega
  clear h0 h1 h2
  rcases hc with rfl | rfl | rfl | rfl | rfl | rfl | rfl | rfl | rfl | rfl
  all_goals
    go_enter Tryz.func188, Tryz.ntmps188
    go_wp2
    go_ret
    exact ⟨rfl, rfl⟩

set_option maxHeartbeats 1000000 in
theorem rmost_any (k : Int) (w : World) (h0 : 0 ≤ k) (h1 : k ≤ 10) (h2 : k ≠ 1) :
    Calls Tryz.prog 187 #[.int .i64 k] w fun e w' => e = .returned (.int .i64 (hi k)) ∧ Keep NoB w w' := by
  have hc : k = 0 ∨ k = 2 ∨ k = 3 ∨ k = 4 ∨ k = 5 ∨ k = 6 ∨ k = 7 ∨ k = 8 ∨ k = 9 ∨ k = 10 := by omega
  clear h0 h1 h2
  rcases hc with rfl | rfl | rfl | rfl | rfl | rfl | rfl | rfl | rfl | rfl
  all_goals
    go_enter Tryz.func187, Tryz.ntmps187
    go_wp2
    go_ret
    exact ⟨rfl, (Keep.refl NoB w).alloc _⟩

end Go.Proofs.YtbnekeomdhljhaaGreatDoor.O

namespace Go.Proofs.YtbnekeomdhljhaaGreatDoor.W
open Go.RowKit

/-- What Check answers. -/
def chk (t n : Int) : Int := if okB t n = true then 0 else 21
theorem chk_ok {t n : Int} (h : okB t n = true) : chk t n = 0 := by unfold chk; rw [if_pos h]
theorem chk_bad {t n : Int} (h : okB t n = false) : chk t n = 21 := by unfold chk; rw [if_neg (by simp [h])]

set_option maxHeartbeats 400000 in
theorem known_any (t : Int) (w : World) :
    Calls Tryz.prog 124 #[.int .i64 t] w fun e w' => e = .returned (.bool (knownB t)) ∧ w = w' := by
  by_cases h1 : 1 ≤ t
  · by_cases h2 : t < 5
    · go_enter Tryz.func124, Tryz.ntmps124
      go_wp2
      go_ret
      exact ⟨ret_bool (by simp [knownB]; omega), rfl⟩
    · go_enter Tryz.func124, Tryz.ntmps124
      go_wp2
      go_ret
      exact ⟨ret_bool (by simp [knownB]; omega), rfl⟩
  · go_enter Tryz.func124, Tryz.ntmps124
    go_wp2
    go_ret
    exact ⟨ret_bool (by simp [knownB]; omega), rfl⟩

set_option maxHeartbeats 400000 in
theorem rknown_any (t : Int) (w : World) :
    Calls Tryz.prog 77 #[.int .i64 t] w fun e w' => e = .returned (.bool (knownB t)) ∧ w = w' := by
  go_enter Tryz.func77, Tryz.ntmps77
  go_wp2
  all_goals
    go_ret
    exact ⟨ret_bool (by rw [Bool.eq_iff_iff]; simp [knownB]; omega), rfl⟩

set_option maxHeartbeats 1000000 in
theorem check_ok (t n : Int) (w : World) (h : okB t n = true) :
    Calls Tryz.prog 135 #[.agg #[.int .i64 t, .int .i64 n]] w fun e w' => e = .returned (.int .i64 0) ∧ Keep NoB w w' := by
  have hk := ok_known h
  have ho := (ok_iff t n).1 h
  clear h
  by_cases h1 : t = 1
  · subst h1
    by_cases hn : n < 0
    · go_enter Tryz.func135, Tryz.ntmps135
      go_wp2_with (go_at_call 124; refine (known_any _ _).mono ?_; rintro e w' ⟨rfl, rfl⟩)
      go_ret
      exact ⟨rfl, (Keep.refl _ _).alloc _⟩
    · go_enter Tryz.func135, Tryz.ntmps135
      go_wp2_with (go_at_call 124; refine (known_any _ _).mono ?_; rintro e w' ⟨rfl, rfl⟩)
      go_ret
      exact ⟨rfl, (Keep.refl _ _).alloc _⟩
  · have hn : ¬ n < 0 := by omega
    clear h1 ho
    go_enter Tryz.func135, Tryz.ntmps135
    go_wp2_with (go_at_call 124; refine (known_any _ _).mono ?_; rintro e w' ⟨rfl, rfl⟩)
    go_ret
    exact ⟨rfl, (Keep.refl _ _).alloc _⟩

set_option maxHeartbeats 1000000 in
theorem check_bad (t n : Int) (w : World) (h : okB t n = false) :
    Calls Tryz.prog 135 #[.agg #[.int .i64 t, .int .i64 n]] w fun e w' => e = .returned (.int .i64 21) ∧ Keep NoB w w' := by
  have ho := (ok_not t n).1 h
  clear h
  cases hk : knownB t
  · clear ho
    go_enter Tryz.func135, Tryz.ntmps135
    go_wp2_with (go_at_call 124; refine (known_any _ _).mono ?_; rintro e w' ⟨rfl, rfl⟩)
    go_ret
    exact ⟨rfl, (Keep.refl _ _).alloc _⟩
  · have hk' := (known_iff t).1 hk
    have hn : n < 0 := by omega
    have h1 : ¬ t = 1 := by omega
    clear ho hk'
    go_enter Tryz.func135, Tryz.ntmps135
    go_wp2_with (go_at_call 124; refine (known_any _ _).mono ?_; rintro e w' ⟨rfl, rfl⟩)
    go_ret
    exact ⟨rfl, (Keep.refl _ _).alloc _⟩

/-- Check, in one form. -/
theorem check_any (t n : Int) (w : World) :
    Calls Tryz.prog 135 #[.agg #[.int .i64 t, .int .i64 n]] w fun e w' => e = .returned (.int .i64 (chk t n)) ∧ Keep NoB w w' := by
  cases h : okB t n
  · rw [chk_bad h]; exact check_bad t n w h
  · rw [chk_ok h]; exact check_ok t n w h

set_option maxHeartbeats 1000000 in
theorem rcheck_any (t n : Int) (w : World) :
    Calls Tryz.prog 137 #[.agg #[.int .i64 t, .int .i64 n]] w fun e w' => e = .returned (.int .i64 (chk t n)) ∧ Keep NoB w w' := by
  cases h : okB t n
  · rw [chk_bad h]
    have ho := (ok_not t n).1 h
    clear h
    cases hk : knownB t
    · clear ho
      go_enter Tryz.func137, Tryz.ntmps137
      go_wp2_with (go_at_call 77; refine (rknown_any _ _).mono ?_; rintro e w' ⟨rfl, rfl⟩)
      go_ret
      exact ⟨rfl, (Keep.refl _ _).alloc _⟩
    · have hk' := (known_iff t).1 hk
      have hn : n < 0 := by omega
      have h1 : 1 < t := by omega
      clear ho hk'
      go_enter Tryz.func137, Tryz.ntmps137
      go_wp2_with (go_at_call 77; refine (rknown_any _ _).mono ?_; rintro e w' ⟨rfl, rfl⟩)
      go_ret
      exact ⟨rfl, (Keep.refl _ _).alloc _⟩
  · rw [chk_ok h]
    have hk := ok_known h
    have ho := (ok_iff t n).1 h
    clear h
    by_cases h1 : 1 < t
    · have hn : ¬ n < 0 := by omega
      clear ho
      go_enter Tryz.func137, Tryz.ntmps137
      go_wp2_with (go_at_call 77; refine (rknown_any _ _).mono ?_; rintro e w' ⟨rfl, rfl⟩)
      go_ret
      exact ⟨rfl, (Keep.refl _ _).alloc _⟩
    · clear ho
      go_enter Tryz.func137, Tryz.ntmps137
      go_wp2_with (go_at_call 77; refine (rknown_any _ _).mono ?_; rintro e w' ⟨rfl, rfl⟩)
      go_ret
      exact ⟨rfl, (Keep.refl _ _).alloc _⟩

/-! ### Zero, Nil -/

set_option maxHeartbeats 1000000 in
theorem zero_ok (t : Int) (w : World) (h : knownB t = true) :
    Calls Tryz.prog 136 #[.int .i64 t] w fun e w' => e = .returned (.tuple #[.agg #[.int .i64 t, .int .i64 0], .int .i64 0]) ∧ Keep NoB w w' := by
  go_enter Tryz.func136, Tryz.ntmps136
  go_wp2_with (go_at_call 124; refine (known_any _ _).mono ?_; rintro e w' ⟨rfl, rfl⟩)
  exact bodyPost_ret (v := .tuple #[.agg #[.int .i64 t, .int .i64 0], .int .i64 0]) (by simp [results, Tryz.results136, go_sem]) rfl ⟨rfl, (Keep.refl _ _).alloc _⟩
set_option maxHeartbeats 1000000 in
theorem zero_bad (t : Int) (w : World) (h : knownB t = false) :
    Calls Tryz.prog 136 #[.int .i64 t] w fun e w' => e = .returned (.tuple #[.agg #[.int .i64 0, .int .i64 0], .int .i64 20]) ∧ Keep NoB w w' := by
  go_enter Tryz.func136, Tryz.ntmps136
  go_wp2_with (go_at_call 124; refine (known_any _ _).mono ?_; rintro e w' ⟨rfl, rfl⟩)
  exact bodyPost_ret (v := .tuple #[.agg #[.int .i64 0, .int .i64 0], .int .i64 20]) (by simp [results, Tryz.results136, go_sem]) rfl ⟨rfl, (Keep.refl _ _).alloc _⟩

end Go.Proofs.YtbnekeomdhljhaaGreatDoor.W

namespace Go.Proofs.YtbnekeomdhljhaaGreatDoor.W
open Go.RowKit

/-! ### great -/

end Go.Proofs.YtbnekeomdhljhaaGreatDoor.W

namespace Go.Proofs.YtbnekeomdhljhaaGreatDoor.W
open Go.RowKit

set_option maxRecDepth 100000 in
set_option maxHeartbeats 2000000 in
theorem ints_any (A B : Option Addr) (la lb : List Int) (n m c d : Nat) (w : World) (ha : Rd w A (ivs la)) (hb : Rd w B (ivs lb)) (hn : Hid (la.length = n)) (hm : Hid (lb.length = m))
    (h1 : n ≤ 9223372036854775807) (h2 : m ≤ 9223372036854775807) (R : Bool) (hR : Hid (R = decide (la = lb))) :
    Calls Tryz.prog 30 #[.slice A n c, .slice B m d] w fun e w' => e = .returned (.bool R) ∧ Keep NoB w w' := by
  by_cases hnm : n = m
  · subst hnm
    go_enter Tryz.func30, Tryz.ntmps30
    go_wp2
    go_loopw [5] (fun i wr => ∃ k : Nat, k ≤ n ∧ i = .int .i64 k ∧ Hid (la.take k = lb.take k) ∧ Keep NoB w wr) (fun i _ => n - (intOf i).toNat)
    case atStart => exact ⟨0, Nat.zero_le _, rfl, rfl, Keep.refl _ _⟩
    case round =>
      obtain ⟨k, hk, rfl, ht, hK⟩ := hrel
      by_cases hlt : k < n
      · have hka : k < la.length := by rw [hn.out]; exact hlt
        have hkb : k < lb.length := by rw [hm.out]; exact hlt
        obtain ⟨ga, oa, rfl, hca⟩ := rdI_at ha (by omega)
        obtain ⟨gb, ob, rfl, hcb⟩ := rdI_at hb (by omega)
        have ca := hK.cell (hca k hka) id
        have cb := hK.cell (hcb k hkb) id
        have HT := Lib.hid (show la.take (k + 1) = la.take k ++ [la[k]] from List.take_succ_eq_append_getElem hka)
        have HU := Lib.hid (show lb.take (k + 1) = lb.take k ++ [lb[k]] from List.take_succ_eq_append_getElem hkb)
        clear hca hcb
        by_cases he : la[k] = lb[k]
        · have HV : Hid (la.take (k + 1) = lb.take (k + 1)) := by show _ = _; rw [HT.out, HU.out, ht.out, he]
          rw [he] at ca
          clear he HT HU ha hb
          generalize lb[k] = y at ca cb
          go_wp2
          go_quiet (fail)
          go_wp2
          go_roundw
          case rel => exact ⟨k + 1, by omega, by go_num, HV, hK.drewN _⟩
          case measure => simp [intOf]; omega
        · have hf : R = false := by
            rw [hR.out, decide_eq_false_iff_not]
            intro e
            exact he (by simp [e])
          subst hf
          clear HT HU ha hb
          generalize la[k] = x at ca he
          generalize lb[k] = y at cb he
          have hne : (x != y) = true := by rw [bne_iff_ne]; exact he
          clear he
          go_wp2
          go_quiet (fail)
          go_wp2
          go_ret
          exact ⟨rfl, hK.drewN _⟩
      · have hf : R = true := by
          rw [hR.out, decide_eq_true_iff]
          have e1 := ht.out
          rwa [List.take_of_length_le (by rw [hn.out]; omega), List.take_of_length_le (by rw [hm.out]; omega)] at e1
        subst hf
        go_wp2
        go_ret
        exact ⟨rfl, hK⟩
  · have hf : R = false := by
      rw [hR.out, decide_eq_false_iff_not]
      intro e
      exact hnm (by rw [← hn.out, ← hm.out, e])
    subst hf
    have hne : ((n : Int) != (m : Int)) = true := by rw [bne_iff_ne]; omega
    clear hnm
    go_enter Tryz.func30, Tryz.ntmps30
    go_wp2
    go_ret
    exact ⟨rfl, Keep.refl _ _⟩

set_option maxRecDepth 100000 in
set_option maxHeartbeats 2000000 in
theorem same_any (A B : Option Addr) (la lb : List (Int × Int)) (n m c d : Nat) (w : World) (ha : Rd w A (vvs la)) (hb : Rd w B (vvs lb)) (hn : Hid (la.length = n)) (hm : Hid (lb.length = m))
    (h1 : n ≤ 9223372036854775807) (h2 : m ≤ 9223372036854775807) (R : Bool) (hR : Hid (R = decide (la = lb))) :
    Calls Tryz.prog 35 #[.slice A n c, .slice B m d] w fun e w' => e = .returned (.bool R) ∧ Keep NoB w w' := by
  by_cases hnm : n = m
  · subst hnm
    go_enter Tryz.func35, Tryz.ntmps35
    go_wp2
    go_loopw [5] (fun i wr => ∃ k : Nat, k ≤ n ∧ i = .int .i64 k ∧ Hid (la.take k = lb.take k) ∧ Keep NoB w wr) (fun i _ => n - (intOf i).toNat)
    case atStart => exact ⟨0, Nat.zero_le _, rfl, rfl, Keep.refl _ _⟩
    case round =>
      obtain ⟨k, hk, rfl, ht, hK⟩ := hrel
      by_cases hlt : k < n
      · have hka : k < la.length := by rw [hn.out]; exact hlt
        have hkb : k < lb.length := by rw [hm.out]; exact hlt
        obtain ⟨ga, oa, rfl, hca⟩ := rdV_at ha (by omega)
        obtain ⟨gb, ob, rfl, hcb⟩ := rdV_at hb (by omega)
        have ca0 := hK.cell (hca k hka).1 id
        have ca1 := hK.cell (hca k hka).2 id
        have cb0 := hK.cell (hcb k hkb).1 id
        have cb1 := hK.cell (hcb k hkb).2 id
        have HT := Lib.hid (show la.take (k + 1) = la.take k ++ [la[k]] from List.take_succ_eq_append_getElem hka)
        have HU := Lib.hid (show lb.take (k + 1) = lb.take k ++ [lb[k]] from List.take_succ_eq_append_getElem hkb)
        clear hca hcb
        by_cases he : la[k] = lb[k]
        · have HV : Hid (la.take (k + 1) = lb.take (k + 1)) := by show _ = _; rw [HT.out, HU.out, ht.out, he]
          rw [he] at ca0 ca1
          clear he HT HU ha hb
          generalize lb[k] = y at ca0 ca1 cb0 cb1
          obtain ⟨y0, y1⟩ := y
          dsimp only at ca0 ca1 cb0 cb1
          go_wp2
          go_quiet (fail)
          go_wp2
          go_roundw
          case rel => exact ⟨k + 1, by omega, by go_num, HV, hK.drewN _⟩
          case measure => simp [intOf]; omega
        · have hf : R = false := by
            rw [hR.out, decide_eq_false_iff_not]
            intro e
            exact he (by simp [e])
          subst hf
          clear HT HU ha hb
          generalize la[k] = x at ca0 ca1 he
          generalize lb[k] = y at cb0 cb1 he
          obtain ⟨x0, x1⟩ := x
          obtain ⟨y0, y1⟩ := y
          dsimp only at ca0 ca1 cb0 cb1
          by_cases h0 : x0 = y0
          · subst h0
            have hne : (x1 == y1) = false := by rw [beq_eq_false_iff_ne]; rintro rfl; exact he rfl
            clear he
            go_wp2
            go_quiet (fail)
            go_wp2
            go_ret
            exact ⟨rfl, hK.drewN _⟩
          · have hne : (x0 == y0) = false := by rw [beq_eq_false_iff_ne]; exact h0
            clear he h0
            go_wp2
            go_quiet (fail)
            go_wp2
            go_ret
            exact ⟨rfl, hK.drewN _⟩
      · have hf : R = true := by
          rw [hR.out, decide_eq_true_iff]
          have e1 := ht.out
          rwa [List.take_of_length_le (by rw [hn.out]; omega), List.take_of_length_le (by rw [hm.out]; omega)] at e1
        subst hf
        go_wp2
        go_ret
        exact ⟨rfl, hK⟩
  · have hf : R = false := by
      rw [hR.out, decide_eq_false_iff_not]
      intro e
      exact hnm (by rw [← hn.out, ← hm.out, e])
    subst hf
    have hne : ((n : Int) != (m : Int)) = true := by rw [bne_iff_ne]; omega
    clear hnm
    go_enter Tryz.func35, Tryz.ntmps35
    go_wp2
    go_ret
    exact ⟨rfl, Keep.refl _ _⟩

end Go.Proofs.YtbnekeomdhljhaaGreatDoor.W

namespace Go.Proofs.YtbnekeomdhljhaaGreatDoor.W
open Go.RowKit

theorem rd_new (w : World) (E : TypeId) (cs : Array Value) : Rd (w.alloc (.cells cs E)) (some ⟨w.heap.size, 0, none⟩) cs.toList := fun _ =>
  ⟨_, _, rfl, fun j u hu => by rw [Nat.zero_add, (Blk.new w E cs).cell j]; simpa using hu⟩

theorem own_after {w W W' : World} {E size n : Nat} {v v' : Value} {xs : List Value} (ho : ∀ g, v.ownBlock = some g → Fresh w g) (hK : Keep NoB w W) (hg : W.grownBy W' v.ownBlock)
    (hv : v'.ownBlock = v.ownBlock ∨ v'.ownBlock = some W.heap.size) (hrow : W'.ownsRow 0 E size v' n xs) : Own W' E size (Fresh w) v' n xs ∧ Keep NoB w W' := by
  refine ⟨⟨hrow, fun g e => ?_⟩, hK.grown hg (fun g e h => by have := ho g e; unfold Fresh at this; omega)⟩
  rcases hv with h | h
  · exact ho g (h ▸ e)
  · rw [h] at e; cases e; exact hK.size

theorem rd_made {w : World} {E : TypeId} {cs : Array Value} {b : Nat} {xs : List Value} (hb : b = w.heap.size) (hx : xs = cs.toList) : Rd (w.alloc (.cells cs E)) (some ⟨b, 0, none⟩) xs := by
  subst hb hx; exact rd_new w E cs

/-- The zeros of types. -/
def zs (l : List Int) : List (Int × Int) := l.map fun t => (t, 0)

set_option maxRecDepth 100000 in
set_option maxHeartbeats 4000000 in
theorem zeros_any (A : Option Addr) (l : List Int) (n c : Nat) (w : World) (ha : Rd w A (ivs l)) (hn : Hid (l.length = n)) (h1 : n ≤ 4096) :
    Calls Tryz.prog 85 #[.slice A n c] w fun e w' => Keep NoB w w' ∧
      ((l.all knownB = true ∧ ∃ B d, e = .returned (.tuple #[.slice B n d, .int .i64 0]) ∧ Own w' 68 2 (Fresh w) (.slice B n d) n (vvs (zs l))) ∨
       (l.all knownB = false ∧ e = .returned (.tuple #[.slice none 0 0, .int .i64 20]))) := by
  obtain ⟨i0, hi, hz0, hz1, hz2⟩ := info_parts val_info
  go_enter Tryz.func85, Tryz.ntmps85
  go_wp2_with (at_make; refine wpList_make_own _ rfl _ _ 53 rfl w.heap.size 68 i0 _ 2 Tryz.underlying53 hi hz0 hz1 _ _ _ n rfl rfl rfl (by rw [hz2]; omega) (by unfold maxLen; omega) (Nat.le_refl _) ?_; intro w1 hrow1 hg1)
  have hO0 : Own w1 68 2 (Fresh w) (.slice (some ⟨w.heap.size, 0, none⟩) 0 n) 0 (vvs (zs (l.take 0))) := Own.of_row hrow1 (fun _ h => h)
  have hK0 : Keep NoB w w1 := (Keep.refl NoB w).grown hg1 (fun g e _ => by cases e)
  clear hrow1 hg1
  go_loopw [4, 14] (fun v i wr => ∃ k : Nat, k ≤ n ∧ i = .int .i64 k ∧ (∃ B d, v = .slice B k d ∧ Own wr 68 2 (Fresh w) (.slice B k d) k (vvs (zs (l.take k)))) ∧ Hid ((l.take k).all knownB = true) ∧ Keep NoB w wr) (fun _ i _ => n - (intOf i).toNat)
  case atStart => exact ⟨0, Nat.zero_le _, rfl, ⟨_, _, rfl, hO0⟩, rfl, hK0⟩
  case round =>
    obtain ⟨k, hk, rfl, ⟨B, d, rfl, hO⟩, hall, hK⟩ := hrel
    clear hO0 hK0
    by_cases hlt : k < n
    · have hka : k < l.length := by rw [hn.out]; exact hlt
      obtain ⟨g, off, rfl, hc⟩ := rdI_at ha (by omega)
      have ca := hK.cell (hc k hka) id
      clear hc
      have HT := Lib.hid (show l.take (k + 1) = l.take k ++ [l[k]] from List.take_succ_eq_append_getElem hka)
      have HM := Lib.hid (List.getElem_mem hka)
      generalize l[k] = t at ca HT HM
      cases hkn : knownB t
      · go_wp2_with fail
        refine (zero_bad t _ hkn).mono ?_
        rintro e w2 ⟨rfl, hk2⟩
        go_wp2
        go_ret2
        refine ⟨(keepN hK hk2).alloc _, .inr ⟨?_, rfl⟩⟩
        rw [List.all_eq_false]
        exact ⟨t, HM.out, by simp [hkn]⟩
      · have hall2 : Hid ((l.take (k + 1)).all knownB = true) := by show _ = _; rw [HT.out, List.all_append, hall.out]; simp [hkn]
        have HZ : Hid (vvs (zs (l.take (k + 1))) = vvs (zs (l.take k)) ++ [.int .i64 t, .int .i64 0]) := by show _ = _; rw [HT.out]; simp [zs, vvs]
        go_wp2_with fail
        refine (zero_ok t _ hkn).mono ?_
        rintro e w2 ⟨rfl, hk2⟩
        have hO2 := hO.keepN hk2
        have hK2 := keepN hK hk2
        clear hkn HT HM hall hO hK ca
        go_wp2_with (at_builtin; refine wpList_append_rd _ rfl (.tmp 26) (.tmp 28) _ rfl 68 2 16 i0 _ Tryz.underlying53 hi hz0 hz1 hz2 rfl (by decide) _ k _ _ 1 _ [.int .i64 t, .int .i64 0] rfl ((hO2.1.alloc _).alloc _) rfl (rd_made (by simp) rfl) rfl (by simp [Value.oneCell']) (by unfold maxLen; omega) (by omega) ?_; intro B2 d2 w3 hrow3 hg3 hv3; rw [← HZ.out] at hrow3; obtain ⟨hO3, hK3⟩ := own_after hO2.2 ((hK2.alloc _).alloc _) hg3 hv3 hrow3; clear hrow3 hg3 hv3)
        go_roundw
        case rel => exact ⟨k + 1, by omega, by go_num, ⟨B2, d2, rfl, hO3⟩, hall2, hK3⟩
        case measure => simp [intOf]; omega
    · obtain rfl : k = n := by omega
      rw [List.take_of_length_le (by rw [hn.out]; omega)] at hO hall
      have hall' := hall.out
      have H := Lib.hid hall'
      clear hall hall'
      go_wp2
      go_ret2
      exact ⟨hK, .inl ⟨H.out, B, d, rfl, hO⟩⟩

/-- What Zeros answers, in one form. -/
def zN (l : List Int) (n : Nat) : Nat := if l.all knownB = true then n else 0
def zL (l : List Int) : List (Int × Int) := if l.all knownB = true then zs l else []
def zE (l : List Int) : Int := if l.all knownB = true then 0 else 20
theorem zL_length (l : List Int) : (zL l).length = zN l l.length := by unfold zL zN; split <;> simp [zs]
theorem zeros_form {l : List Int} {n : Nat} {w w' : World} {e : Ending} (h : Keep NoB w w' ∧
      ((l.all knownB = true ∧ ∃ B d, e = .returned (.tuple #[.slice B n d, .int .i64 0]) ∧ Own w' 68 2 (Fresh w) (.slice B n d) n (vvs (zs l))) ∨
       (l.all knownB = false ∧ e = .returned (.tuple #[.slice none 0 0, .int .i64 20])))) :
    ∃ B d, e = .returned (.tuple #[.slice B (zN l n) d, .int .i64 (zE l)]) ∧ Own w' 68 2 (Fresh w) (.slice B (zN l n) d) (zN l n) (vvs (zL l)) ∧ Keep NoB w w' := by
  obtain ⟨hK, ⟨h1, B, d, rfl, hO⟩ | ⟨h1, rfl⟩⟩ := h
  · have e1 : zN l n = n := by unfold zN; rw [if_pos h1]
    have e2 : zL l = zs l := by unfold zL; rw [if_pos h1]
    have e3 : zE l = 0 := by unfold zE; rw [if_pos h1]
    rw [e1, e2, e3]
    exact ⟨B, d, rfl, hO, hK⟩
  · have h2 : ¬ l.all knownB = true := by rw [h1]; decide
    have e1 : zN l n = 0 := by unfold zN; rw [if_neg h2]
    have e2 : zL l = [] := by unfold zL; rw [if_neg h2]
    have e3 : zE l = 20 := by unfold zE; rw [if_neg h2]
    rw [e1, e2, e3]
    exact ⟨none, 0, rfl, Own.nil _ _ _ _, hK⟩
theorem zeros_u (A : Option Addr) (l : List Int) (n c : Nat) (w : World) (ha : Rd w A (ivs l)) (hn : Hid (l.length = n)) (h1 : n ≤ 4096) :
    Calls Tryz.prog 85 #[.slice A n c] w fun e w' => ∃ B d, e = .returned (.tuple #[.slice B (zN l n) d, .int .i64 (zE l)]) ∧ Own w' 68 2 (Fresh w) (.slice B (zN l n) d) (zN l n) (vvs (zL l)) ∧ Keep NoB w w' :=
  (zeros_any A l n c w ha hn h1).mono fun _ _ h => zeros_form h

/-- The types of values. -/
def ts (x : List (Int × Int)) : List Int := x.map (·.1)

end Go.Proofs.YtbnekeomdhljhaaGreatDoor.W
