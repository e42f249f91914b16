/-
  What rowFor answers. No conditions.
  What Check, Ends, Goes, Kinds, Name and Effect answer. Conditions: none but that numbers fit an int64.
  The plain mathematics of layer code: instructions as triples, lists of them as cells, which lists are bodies, heads and stretches, what one more and one fewer make, how many have an op. No program, no conditions.
  What Check, Count, ifBody and hasPlace of layer code answer: is a list a body, and how many have an op? Conditions: the list lies in memory.
  What Count, ifBody and hasPlace of layer code answer. Conditions: the list lies in memory.
  The document's Kinds, least, most, in and Check. Conditions: none but that numbers fit an int64.
  What Known, Check, Zero and Nil answer, the code's and the document's. No conditions.
  What Nil answers, the code's and the document's; great. No conditions.
  What the document's Ints and Same answer: are two lists the same? Conditions: the lists lie in memory.
  What Zeros and Of answer: new lists. Conditions: the lists lie in memory, no more than 4096 long.
  What Fits answers. Conditions: the lists lie in memory.
  What the listed package-level variables hold, carried from world to world; Letter and lettered. Conditions: the variables hold what their initialisers lay.
  What Show answers. Conditions: the variables that it reads hold what their initialisers lay; the value's number fits an int64.
  An array of strings among the listed package-level variables, as a list of texts. No conditions.
  What the project's own names of operations and codes answer, and what those that look a name up do. Conditions: the listed package-level variables hold the names.
  What the functions in an operand's fields tell: an operand's text. Conditions: the listed package-level variables hold what their initialisers lay.
-/
import Derived.IntWalk
import Derived.LaidLaws
import Derived.LaidMore
import Derived.Lib.AppendIntMem
import Derived.Lib.ItoaLen
import Derived.Lib.SmallJoins
import Derived.OpenShut
import Derived.Test.YtonpplpfipfnfaaGreatDoorQ2
import Derived.Test.YtonpplpfipfnfaaGreatDoorShelf
namespace Go.Proofs.YtonpplpfipfnfaaGreatDoor.O
open Go.RowKit

/-- An instruction as a value. -/
abbrev instV (op a b : Int) : Value := .agg #[.int .i64 op, .int .i64 a, .int .i64 b]
/-- The row of an instruction, if that may be. -/
def rowR (op a b : Int) : Row := if okI op a b = true then rowAt op else row0
theorem rowR_ok {op a b : Int} (h : okI op a b = true) : rowR op a b = rowAt op := by unfold rowR; rw [if_pos h]
theorem rowR_no {op a b : Int} (h : okI op a b = false) : rowR op a b = row0 := by unfold rowR; rw [if_neg (by rw [h]; decide)]
theorem kinds_ok (op : Int) : 0 ≤ (rowAt op).ka ∧ (rowAt op).ka ≤ 10 ∧ 0 ≤ (rowAt op).kb ∧ (rowAt op).kb ≤ 10 := by
  have := rowAt_all (p := fun r => decide (0 ≤ r.ka ∧ r.ka ≤ 10 ∧ 0 ≤ r.kb ∧ r.kb ≤ 10)) (by decide) (by decide) op
  simpa using this

theorem has_gen (k n : Int) (v : Value) (t : Bool) (w : World) (ht : inK k n = t) (hv : ∃ sh gu, v = opV k sh gu) :
    Calls Tryz.prog 72 #[v, .int .i64 n] w fun e w' => e = .returned (.bool t) ∧ Keep NoB w w' := by
  subst ht; exact has_any k n v w hv
theorem op_gen (k : Int) (hk : 0 ≤ k ∧ k ≤ 10) (w : World) :
    Calls Tryz.prog 59 #[.int .i64 k] w fun e w' => ∃ u, e = .returned u ∧ (∃ sh gu, u = opV k sh gu) ∧ Keep NoB w w' :=
  (operandOf_any k hk w).mono fun _ _ ⟨sh, gu, he, _, hk⟩ => ⟨_, he, ⟨sh, gu, rfl⟩, hk⟩
abbrev cells9 (q : Row) : Array Value := #[.string (str q.name), .int .i64 q.ka, .int .i64 q.kb, .int .i64 q.ta, .int .i64 q.tb, .int .i64 q.la, .int .i64 q.lb, .bool q.hop, .bool q.fin]

/-- What rowFor answers. -/
def ForR (q : Row) (t : Bool) (w : World) (e : Ending) (w' : World) : Prop := e = .returned (.tuple #[rowV q, .bool t]) ∧ Keep NoB w w'

set_option maxRecDepth 100000 in
set_option maxHeartbeats 1000000 in
theorem rowFor_a (op a b : Int) (q : Row) (w : World) (HQ : Hid (rowAt op = q)) (HI : Hid (isOp op = false)) :
    Calls Tryz.prog 49 #[instV op a b] w (ForR row0 false w) := by
  go_enter Tryz.func49, Tryz.ntmps49
  go_wp2_with fail
  refine (rowOf_any op q _ HQ).mono ?_
  rw [HI.out]
  rintro e w1 ⟨rfl, k1⟩
  have bx := ((Blk.new w 46 #[.int .i64 op, .int .i64 a, .int .i64 b]).alloc (.cells rowZ 95)).keep k1 id
  have br := (Blk.new (w.alloc (.cells #[.int .i64 op, .int .i64 a, .int .i64 b] 46)) 95 rowZ).keep k1 id
  rw [World.size_alloc] at br
  have hK := keepN (((Keep.refl NoB w).alloc _).alloc _) k1
  have hz := br.lt
  go_wp2_with fail
  have b2 := Blk.new w1 95 #[.string (str q.name), .int .i64 q.ka, .int .i64 q.kb, .int .i64 q.ta, .int .i64 q.tb, .int .i64 q.la, .int .i64 q.lb, .bool q.hop, .bool q.fin]
  have bx2 := bx.alloc (.cells #[.string (str q.name), .int .i64 q.ka, .int .i64 q.kb, .int .i64 q.ta, .int .i64 q.tb, .int .i64 q.la, .int .i64 q.lb, .bool q.hop, .bool q.fin] 95)
  have br2 := br.alloc (.cells #[.string (str q.name), .int .i64 q.ka, .int .i64 q.kb, .int .i64 q.ta, .int .i64 q.tb, .int .i64 q.la, .int .i64 q.lb, .bool q.hop, .bool q.fin] 95)
  have hK2 := hK.alloc (.cells #[.string (str q.name), .int .i64 q.ka, .int .i64 q.kb, .int .i64 q.ta, .int .i64 q.tb, .int .i64 q.la, .int .i64 q.lb, .bool q.hop, .bool q.fin] 95)
  obtain ⟨w2, hw2⟩ : ∃ w2, w1.alloc (.cells #[.string (str q.name), .int .i64 q.ka, .int .i64 q.kb, .int .i64 q.ta, .int .i64 q.tb, .int .i64 q.la, .int .i64 q.lb, .bool q.hop, .bool q.fin] 95) = w2 := ⟨_, rfl⟩
  rw [hw2] at b2 bx2 br2 hK2
  have HW := Lib.hid hw2
  rw [hw2]
  clear hw2 bx br hK k1
  · refine wp_region_sh ((0, false) :: (1, false) :: (2, false) :: (3, false) :: (4, false) :: (5, false) :: (7, false) :: (8, false) :: (6, true) :: (9, false) :: (10, false) :: (11, false) :: (12, false) :: (13, false) :: (14, false) :: (15, false) :: (17, false) :: (18, false) :: (16, true) :: (19, false) :: (20, false) :: (21, false) :: []) (fun w' => Keep NoB w2 w') (by kernel_rfl) (by kernel_rfl) (by rfl) (by kernel_rfl) (stable_keep w2) (Keep.refl NoB w2).drew ?_
    refine shM_step rfl rfl rfl (by rfl) (by rfl) ?_
    apply Exists.intro
    refine ⟨fun n K hK => ?_, ?_, ?_⟩
    · go_big_quiet_op
      exact hK _ rfl
    · kernel_rfl
    refine shM_step rfl rfl rfl (by rfl) (by rfl) ?_
    apply Exists.intro
    refine ⟨fun n K hK => ?_, ?_, ?_⟩
    · go_big_quiet_op
      exact hK _ rfl
    · kernel_rfl
    refine shM_step rfl rfl rfl (by rfl) (by rfl) ?_
    apply Exists.intro
    refine ⟨fun n K hK => ?_, ?_, ?_⟩
    · go_big_quiet_op
      exact hK _ rfl
    · kernel_rfl
    refine shM_skip rfl (by kernel_rfl) (by kernel_rfl) ?_
    refine shM_skip rfl (by kernel_rfl) (by kernel_rfl) ?_
    refine shM_skip rfl (by kernel_rfl) (by kernel_rfl) ?_
    refine shM_skip rfl (by kernel_rfl) (by kernel_rfl) ?_
    refine shM_skip rfl (by kernel_rfl) (by kernel_rfl) ?_
    refine shM_skip rfl (by kernel_rfl) (by kernel_rfl) ?_
    refine shM_skip rfl (by kernel_rfl) (by kernel_rfl) ?_
    refine shM_skip rfl (by kernel_rfl) (by kernel_rfl) ?_
    refine shM_step rfl rfl rfl (by rfl) (by rfl) ?_
    apply Exists.intro
    refine ⟨fun n K hK => ?_, ?_, ?_⟩
    · go_big_quiet_op
      exact hK _ rfl
    · kernel_rfl
    refine shM_step rfl rfl rfl (by rfl) (by rfl) ?_
    apply Exists.intro
    refine ⟨fun n K hK => ?_, ?_, ?_⟩
    · go_big_quiet_op
      exact hK _ rfl
    · kernel_rfl
    refine shM_skip rfl (by kernel_rfl) (by kernel_rfl) ?_
    refine shM_skip rfl (by kernel_rfl) (by kernel_rfl) ?_
    refine shM_skip rfl (by kernel_rfl) (by kernel_rfl) ?_
    refine shM_skip rfl (by kernel_rfl) (by kernel_rfl) ?_
    refine shM_skip rfl (by kernel_rfl) (by kernel_rfl) ?_
    refine shM_skip rfl (by kernel_rfl) (by kernel_rfl) ?_
    refine shM_skip rfl (by kernel_rfl) (by kernel_rfl) ?_
    refine shM_skip rfl (by kernel_rfl) (by kernel_rfl) ?_
    refine shM_step rfl rfl rfl (by rfl) (by rfl) ?_
    apply Exists.intro
    refine ⟨fun n K hK => ?_, ?_, ?_⟩
    · go_big_quiet_op
      exact hK _ rfl
    · kernel_rfl
    refine shM_nil (fun n => ?_)
    have k3 := n.has
    generalize n.w = w3 at k3 ⊢
    have b3 := b2.keep k3 id
    have br3 := br2.keep k3 id
    have hK3 := keepN hK2 k3
    have f0 := fun i => br3.frozen i
    obtain ⟨c0, c1, c2, c3, c4, c5, c6, c7, c8⟩ := blk9 br3
    have hz3 := br3.lt
    clear k3 b2 br2 hK2 bx2
    go_wp2
    exact bodyPost_ret (v := .tuple #[rowV row0, .bool false]) (by simp [results, Tryz.results49, go_sem, c0, c1, c2, c3, c4, c5, c6, c7, c8, row0]) rfl ⟨rfl, keep9 hK3 (Nat.le_succ _) _ _ _ _ _ _ _ _ _⟩

set_option maxRecDepth 100000 in
set_option maxHeartbeats 1000000 in
theorem rowFor_b (op a b : Int) (q : Row) (w : World) (HQ : Hid (rowAt op = q)) (HI : Hid (isOp op = true)) (HA : Hid (inK q.ka a = false)) (hka : 0 ≤ q.ka ∧ q.ka ≤ 10) :
    Calls Tryz.prog 49 #[instV op a b] w (ForR row0 false w) := by
  go_enter Tryz.func49, Tryz.ntmps49
  go_wp2_with fail
  refine (rowOf_any op q _ HQ).mono ?_
  rw [HI.out]
  rintro e w1 ⟨rfl, k1⟩
  have bx := ((Blk.new w 46 #[.int .i64 op, .int .i64 a, .int .i64 b]).alloc (.cells rowZ 95)).keep k1 id
  have br := (Blk.new (w.alloc (.cells #[.int .i64 op, .int .i64 a, .int .i64 b] 46)) 95 rowZ).keep k1 id
  rw [World.size_alloc] at br
  have hK := keepN (((Keep.refl NoB w).alloc _).alloc _) k1
  have hz := br.lt
  go_wp2_with fail
  have b2 := Blk.new w1 95 #[.string (str q.name), .int .i64 q.ka, .int .i64 q.kb, .int .i64 q.ta, .int .i64 q.tb, .int .i64 q.la, .int .i64 q.lb, .bool q.hop, .bool q.fin]
  have bx2 := bx.alloc (.cells #[.string (str q.name), .int .i64 q.ka, .int .i64 q.kb, .int .i64 q.ta, .int .i64 q.tb, .int .i64 q.la, .int .i64 q.lb, .bool q.hop, .bool q.fin] 95)
  have br2 := br.alloc (.cells #[.string (str q.name), .int .i64 q.ka, .int .i64 q.kb, .int .i64 q.ta, .int .i64 q.tb, .int .i64 q.la, .int .i64 q.lb, .bool q.hop, .bool q.fin] 95)
  have hK2 := hK.alloc (.cells #[.string (str q.name), .int .i64 q.ka, .int .i64 q.kb, .int .i64 q.ta, .int .i64 q.tb, .int .i64 q.la, .int .i64 q.lb, .bool q.hop, .bool q.fin] 95)
  obtain ⟨w2, hw2⟩ : ∃ w2, w1.alloc (.cells #[.string (str q.name), .int .i64 q.ka, .int .i64 q.kb, .int .i64 q.ta, .int .i64 q.tb, .int .i64 q.la, .int .i64 q.lb, .bool q.hop, .bool q.fin] 95) = w2 := ⟨_, rfl⟩
  rw [hw2] at b2 bx2 br2 hK2
  have HW := Lib.hid hw2
  rw [hw2]
  clear hw2 bx br hK k1
  · refine wp_region_sh ((0, false) :: (1, false) :: (2, false) :: (3, false) :: (4, false) :: (5, false) :: (7, false) :: (8, false) :: (6, true) :: (9, false) :: (10, false) :: (11, false) :: (12, false) :: (13, false) :: (14, false) :: (15, false) :: (17, false) :: (18, false) :: (16, true) :: (19, false) :: (20, false) :: (21, false) :: []) (fun w' => Keep NoB w2 w') (by kernel_rfl) (by kernel_rfl) (by rfl) (by kernel_rfl) (stable_keep w2) (Keep.refl NoB w2).drew ?_
    refine shM_step rfl rfl rfl (by rfl) (by rfl) ?_
    apply Exists.intro
    refine ⟨fun n K hK => ?_, ?_, ?_⟩
    · go_big_quiet_op
      exact hK _ rfl
    · kernel_rfl
    refine shM_step rfl rfl rfl (by rfl) (by rfl) ?_
    apply Exists.intro
    refine ⟨fun n K hK => ?_, ?_, ?_⟩
    · go_big_quiet_op
      exact hK _ rfl
    · kernel_rfl
    refine shM_step rfl rfl rfl (by rfl) (by rfl) ?_
    apply Exists.intro
    refine ⟨fun n K hK => ?_, ?_, ?_⟩
    · go_big_quiet_op
      exact hK _ rfl
    · kernel_rfl
    refine shM_step rfl rfl rfl (by rfl) (by rfl) ?_
    apply Exists.intro
    refine ⟨fun n K hK => ?_, ?_, ?_⟩
    · go_big_quiet_op
      exact hK _ rfl
    · kernel_rfl
    refine shM_step rfl rfl rfl (by rfl) (by rfl) ?_
    apply Exists.intro
    refine ⟨fun n K hK => ?_, ?_, ?_⟩
    · go_big_quiet_op
      exact hK _ rfl
    · kernel_rfl
    refine shM_step rfl rfl rfl (by rfl) (by rfl) ?_
    apply Exists.intro
    refine ⟨fun n K hK => ?_, ?_, ?_⟩
    · have q1 : ∀ m : KW n.w, m.w.cell? ⟨w1.heap.size, 1, none⟩ = some (.int .i64 q.ka) := fun m => (b2.keep (keepN n.has m.keep) id).cell 1
      go_big_quiet_op
      exact hK _ rfl
    · kernel_rfl
    refine shM_step rfl rfl rfl (by rfl) (by rfl) ?_
    apply Exists.intro
    refine ⟨fun n K hK => ?_, ?_, ?_⟩
    · go_big_quiet_op
      exact hK _ rfl
    · kernel_rfl
    refine shM_step rfl rfl rfl (by rfl) (by rfl) ?_
    apply Exists.intro
    refine ⟨fun n K hK => ?_, ?_, ?_⟩
    · have x1 : ∀ m : KW n.w, m.w.cell? ⟨w.heap.size, 1, none⟩ = some (.int .i64 a) := fun m => (bx2.keep (keepN n.has m.keep) id).cell 1
      go_big_quiet_op
      exact hK _ rfl
    · kernel_rfl
    refine shM_gen rfl rfl (by kernel_rfl) (fun v _ => ∃ sh gu, v = opV q.ka sh gu) (fun v w w' h _ => h) (fun n => ?_) (fun v1 => ?_)
    · unfold yieldsK
      go_simp
      exact op_gen q.ka hka _
    simp only [Act.put, List.setIfInBounds_toArray, List.set_cons_zero, List.set_cons_succ]
    refine shM_step rfl rfl rfl (by rfl) (by rfl) ?_
    apply Exists.intro
    refine ⟨fun n K hK => ?_, ?_, ?_⟩
    · go_big_quiet_op
      apply Exists.intro
      refine ⟨fun m => ?_, ?_⟩
      · go_at_call 72
        exact kept_of (has_gen q.ka a v1 false _ HA.out n.has.2)
      · exact hK _ rfl
    · kernel_rfl
    refine shM_step rfl rfl rfl (by rfl) (by rfl) ?_
    apply Exists.intro
    refine ⟨fun n K hK => ?_, ?_, ?_⟩
    · go_big_quiet_op
      exact hK _ rfl
    · kernel_rfl
    refine shM_step rfl rfl rfl (by rfl) (by rfl) ?_
    apply Exists.intro
    refine ⟨fun n K hK => ?_, ?_, ?_⟩
    · go_big_quiet_op
      exact hK _ rfl
    · kernel_rfl
    refine shM_step rfl rfl rfl (by rfl) (by rfl) ?_
    apply Exists.intro
    refine ⟨fun n K hK => ?_, ?_, ?_⟩
    · go_big_quiet_op
      exact hK _ rfl
    · kernel_rfl
    refine shM_skip rfl (by kernel_rfl) (by kernel_rfl) ?_
    refine shM_skip rfl (by kernel_rfl) (by kernel_rfl) ?_
    refine shM_skip rfl (by kernel_rfl) (by kernel_rfl) ?_
    refine shM_skip rfl (by kernel_rfl) (by kernel_rfl) ?_
    refine shM_skip rfl (by kernel_rfl) (by kernel_rfl) ?_
    refine shM_skip rfl (by kernel_rfl) (by kernel_rfl) ?_
    refine shM_skip rfl (by kernel_rfl) (by kernel_rfl) ?_
    refine shM_skip rfl (by kernel_rfl) (by kernel_rfl) ?_
    refine shM_step rfl rfl rfl (by rfl) (by rfl) ?_
    apply Exists.intro
    refine ⟨fun n K hK => ?_, ?_, ?_⟩
    · go_big_quiet_op
      exact hK _ rfl
    · kernel_rfl
    refine shM_nil (fun n => ?_)
    have k3 := n.has.1
    generalize n.w = w3 at k3 ⊢
    have b3 := b2.keep k3 id
    have br3 := br2.keep k3 id
    have hK3 := keepN hK2 k3
    have f0 := fun i => br3.frozen i
    obtain ⟨c0, c1, c2, c3, c4, c5, c6, c7, c8⟩ := blk9 br3
    have hz3 := br3.lt
    clear k3 b2 br2 hK2 bx2
    go_wp2
    exact bodyPost_ret (v := .tuple #[rowV row0, .bool false]) (by simp [results, Tryz.results49, go_sem, c0, c1, c2, c3, c4, c5, c6, c7, c8, row0]) rfl ⟨rfl, keep9 hK3 (Nat.le_succ _) _ _ _ _ _ _ _ _ _⟩

set_option maxRecDepth 100000 in
set_option maxHeartbeats 1000000 in
theorem rowFor_c (op a b : Int) (q : Row) (w : World) (HQ : Hid (rowAt op = q)) (HI : Hid (isOp op = true)) (HA : Hid (inK q.ka a = true)) (HB : Hid (inK q.kb b = false)) (hka : 0 ≤ q.ka ∧ q.ka ≤ 10) (hkb : 0 ≤ q.kb ∧ q.kb ≤ 10) :
    Calls Tryz.prog 49 #[instV op a b] w (ForR row0 false w) := by
  go_enter Tryz.func49, Tryz.ntmps49
  go_wp2_with fail
  refine (rowOf_any op q _ HQ).mono ?_
  rw [HI.out]
  rintro e w1 ⟨rfl, k1⟩
  have bx := ((Blk.new w 46 #[.int .i64 op, .int .i64 a, .int .i64 b]).alloc (.cells rowZ 95)).keep k1 id
  have br := (Blk.new (w.alloc (.cells #[.int .i64 op, .int .i64 a, .int .i64 b] 46)) 95 rowZ).keep k1 id
  rw [World.size_alloc] at br
  have hK := keepN (((Keep.refl NoB w).alloc _).alloc _) k1
  have hz := br.lt
  go_wp2_with fail
  have b2 := Blk.new w1 95 #[.string (str q.name), .int .i64 q.ka, .int .i64 q.kb, .int .i64 q.ta, .int .i64 q.tb, .int .i64 q.la, .int .i64 q.lb, .bool q.hop, .bool q.fin]
  have bx2 := bx.alloc (.cells #[.string (str q.name), .int .i64 q.ka, .int .i64 q.kb, .int .i64 q.ta, .int .i64 q.tb, .int .i64 q.la, .int .i64 q.lb, .bool q.hop, .bool q.fin] 95)
  have br2 := br.alloc (.cells #[.string (str q.name), .int .i64 q.ka, .int .i64 q.kb, .int .i64 q.ta, .int .i64 q.tb, .int .i64 q.la, .int .i64 q.lb, .bool q.hop, .bool q.fin] 95)
  have hK2 := hK.alloc (.cells #[.string (str q.name), .int .i64 q.ka, .int .i64 q.kb, .int .i64 q.ta, .int .i64 q.tb, .int .i64 q.la, .int .i64 q.lb, .bool q.hop, .bool q.fin] 95)
  obtain ⟨w2, hw2⟩ : ∃ w2, w1.alloc (.cells #[.string (str q.name), .int .i64 q.ka, .int .i64 q.kb, .int .i64 q.ta, .int .i64 q.tb, .int .i64 q.la, .int .i64 q.lb, .bool q.hop, .bool q.fin] 95) = w2 := ⟨_, rfl⟩
  rw [hw2] at b2 bx2 br2 hK2
  have HW := Lib.hid hw2
  rw [hw2]
  clear hw2 bx br hK k1
  · refine wp_region_sh ((0, false) :: (1, false) :: (2, false) :: (3, false) :: (4, false) :: (5, false) :: (7, false) :: (8, false) :: (6, true) :: (9, false) :: (10, false) :: (11, false) :: (12, false) :: (13, false) :: (14, false) :: (15, false) :: (17, false) :: (18, false) :: (16, true) :: (19, false) :: (20, false) :: (21, false) :: []) (fun w' => Keep NoB w2 w') (by kernel_rfl) (by kernel_rfl) (by rfl) (by kernel_rfl) (stable_keep w2) (Keep.refl NoB w2).drew ?_
    refine shM_step rfl rfl rfl (by rfl) (by rfl) ?_
    apply Exists.intro
    refine ⟨fun n K hK => ?_, ?_, ?_⟩
    · go_big_quiet_op
      exact hK _ rfl
    · kernel_rfl
    refine shM_step rfl rfl rfl (by rfl) (by rfl) ?_
    apply Exists.intro
    refine ⟨fun n K hK => ?_, ?_, ?_⟩
    · go_big_quiet_op
      exact hK _ rfl
    · kernel_rfl
    refine shM_step rfl rfl rfl (by rfl) (by rfl) ?_
    apply Exists.intro
    refine ⟨fun n K hK => ?_, ?_, ?_⟩
    · go_big_quiet_op
      exact hK _ rfl
    · kernel_rfl
    refine shM_step rfl rfl rfl (by rfl) (by rfl) ?_
    apply Exists.intro
    refine ⟨fun n K hK => ?_, ?_, ?_⟩
    · go_big_quiet_op
      exact hK _ rfl
    · kernel_rfl
    refine shM_step rfl rfl rfl (by rfl) (by rfl) ?_
    apply Exists.intro
    refine ⟨fun n K hK => ?_, ?_, ?_⟩
    · go_big_quiet_op
      exact hK _ rfl
    · kernel_rfl
    refine shM_step rfl rfl rfl (by rfl) (by rfl) ?_
    apply Exists.intro
    refine ⟨fun n K hK => ?_, ?_, ?_⟩
    · have q1 : ∀ m : KW n.w, m.w.cell? ⟨w1.heap.size, 1, none⟩ = some (.int .i64 q.ka) := fun m => (b2.keep (keepN n.has m.keep) id).cell 1
      go_big_quiet_op
      exact hK _ rfl
    · kernel_rfl
    refine shM_step rfl rfl rfl (by rfl) (by rfl) ?_
    apply Exists.intro
    refine ⟨fun n K hK => ?_, ?_, ?_⟩
    · go_big_quiet_op
      exact hK _ rfl
    · kernel_rfl
    refine shM_step rfl rfl rfl (by rfl) (by rfl) ?_
    apply Exists.intro
    refine ⟨fun n K hK => ?_, ?_, ?_⟩
    · have x1 : ∀ m : KW n.w, m.w.cell? ⟨w.heap.size, 1, none⟩ = some (.int .i64 a) := fun m => (bx2.keep (keepN n.has m.keep) id).cell 1
      go_big_quiet_op
      exact hK _ rfl
    · kernel_rfl
    refine shM_gen rfl rfl (by kernel_rfl) (fun v _ => ∃ sh gu, v = opV q.ka sh gu) (fun v w w' h _ => h) (fun n => ?_) (fun v1 => ?_)
    · unfold yieldsK
      go_simp
      exact op_gen q.ka hka _
    simp only [Act.put, List.setIfInBounds_toArray, List.set_cons_zero, List.set_cons_succ]
    refine shM_step rfl rfl rfl (by rfl) (by rfl) ?_
    apply Exists.intro
    refine ⟨fun n K hK => ?_, ?_, ?_⟩
    · go_big_quiet_op
      apply Exists.intro
      refine ⟨fun m => ?_, ?_⟩
      · go_at_call 72
        exact kept_of (has_gen q.ka a v1 true _ HA.out n.has.2)
      · exact hK _ rfl
    · kernel_rfl
    refine shM_step rfl rfl rfl (by rfl) (by rfl) ?_
    apply Exists.intro
    refine ⟨fun n K hK => ?_, ?_, ?_⟩
    · go_big_quiet_op
      exact hK _ rfl
    · kernel_rfl
    refine shM_step rfl rfl rfl (by rfl) (by rfl) ?_
    apply Exists.intro
    refine ⟨fun n K hK => ?_, ?_, ?_⟩
    · go_big_quiet_op
      exact hK _ rfl
    · kernel_rfl
    refine shM_step rfl rfl rfl (by rfl) (by rfl) ?_
    apply Exists.intro
    refine ⟨fun n K hK => ?_, ?_, ?_⟩
    · go_big_quiet_op
      exact hK _ rfl
    · kernel_rfl
    refine shM_step rfl rfl rfl (by rfl) (by rfl) ?_
    apply Exists.intro
    refine ⟨fun n K hK => ?_, ?_, ?_⟩
    · go_big_quiet_op
      exact hK _ rfl
    · kernel_rfl
    refine shM_step rfl rfl rfl (by rfl) (by rfl) ?_
    apply Exists.intro
    refine ⟨fun n K hK => ?_, ?_, ?_⟩
    · go_big_quiet_op
      exact hK _ rfl
    · kernel_rfl
    refine shM_step rfl rfl rfl (by rfl) (by rfl) ?_
    apply Exists.intro
    refine ⟨fun n K hK => ?_, ?_, ?_⟩
    · have q1 : ∀ m : KW n.w, m.w.cell? ⟨w1.heap.size, 2, none⟩ = some (.int .i64 q.kb) := fun m => (b2.keep (keepN n.has.1 m.keep) id).cell 2
      go_big_quiet_op
      exact hK _ rfl
    · kernel_rfl
    refine shM_step rfl rfl rfl (by rfl) (by rfl) ?_
    apply Exists.intro
    refine ⟨fun n K hK => ?_, ?_, ?_⟩
    · go_big_quiet_op
      exact hK _ rfl
    · kernel_rfl
    refine shM_step rfl rfl rfl (by rfl) (by rfl) ?_
    apply Exists.intro
    refine ⟨fun n K hK => ?_, ?_, ?_⟩
    · have x1 : ∀ m : KW n.w, m.w.cell? ⟨w.heap.size, 2, none⟩ = some (.int .i64 b) := fun m => (bx2.keep (keepN n.has.1 m.keep) id).cell 2
      go_big_quiet_op
      exact hK _ rfl
    · kernel_rfl
    refine shM_gen rfl rfl (by kernel_rfl) (fun v _ => ∃ sh gu, v = opV q.kb sh gu) (fun v w w' h _ => h) (fun n => ?_) (fun v2 => ?_)
    · unfold yieldsK
      go_simp
      exact op_gen q.kb hkb _
    simp only [Act.put, List.setIfInBounds_toArray, List.set_cons_zero, List.set_cons_succ]
    refine shM_step rfl rfl rfl (by rfl) (by rfl) ?_
    apply Exists.intro
    refine ⟨fun n K hK => ?_, ?_, ?_⟩
    · go_big_quiet_op
      apply Exists.intro
      refine ⟨fun m => ?_, ?_⟩
      · go_at_call 72
        exact kept_of (has_gen q.kb b v2 false _ HB.out n.has.2)
      · exact hK _ rfl
    · kernel_rfl
    refine shM_step rfl rfl rfl (by rfl) (by rfl) ?_
    apply Exists.intro
    refine ⟨fun n K hK => ?_, ?_, ?_⟩
    · go_big_quiet_op
      exact hK _ rfl
    · kernel_rfl
    refine shM_step rfl rfl rfl (by rfl) (by rfl) ?_
    apply Exists.intro
    refine ⟨fun n K hK => ?_, ?_, ?_⟩
    · go_big_quiet_op
      exact hK _ rfl
    · kernel_rfl
    refine shM_nil (fun n => ?_)
    have k3 := n.has.1.1
    generalize n.w = w3 at k3 ⊢
    have b3 := b2.keep k3 id
    have br3 := br2.keep k3 id
    have hK3 := keepN hK2 k3
    have f0 := fun i => br3.frozen i
    obtain ⟨c0, c1, c2, c3, c4, c5, c6, c7, c8⟩ := blk9 br3
    have hz3 := br3.lt
    clear k3 b2 br2 hK2 bx2
    go_wp2
    exact bodyPost_ret (v := .tuple #[rowV row0, .bool false]) (by simp [results, Tryz.results49, go_sem, c0, c1, c2, c3, c4, c5, c6, c7, c8, row0]) rfl ⟨rfl, keep9 hK3 (Nat.le_succ _) _ _ _ _ _ _ _ _ _⟩

set_option maxRecDepth 100000 in
set_option maxHeartbeats 1000000 in
theorem rowFor_d (op a b : Int) (q : Row) (w : World) (HQ : Hid (rowAt op = q)) (HI : Hid (isOp op = true)) (HA : Hid (inK q.ka a = true)) (HB : Hid (inK q.kb b = true)) (hka : 0 ≤ q.ka ∧ q.ka ≤ 10) (hkb : 0 ≤ q.kb ∧ q.kb ≤ 10) :
    Calls Tryz.prog 49 #[instV op a b] w (ForR q true w) := by
  go_enter Tryz.func49, Tryz.ntmps49
  go_wp2_with fail
  refine (rowOf_any op q _ HQ).mono ?_
  rw [HI.out]
  rintro e w1 ⟨rfl, k1⟩
  have bx := ((Blk.new w 46 #[.int .i64 op, .int .i64 a, .int .i64 b]).alloc (.cells rowZ 95)).keep k1 id
  have br := (Blk.new (w.alloc (.cells #[.int .i64 op, .int .i64 a, .int .i64 b] 46)) 95 rowZ).keep k1 id
  rw [World.size_alloc] at br
  have hK := keepN (((Keep.refl NoB w).alloc _).alloc _) k1
  have hz := br.lt
  go_wp2_with fail
  have b2 := Blk.new w1 95 #[.string (str q.name), .int .i64 q.ka, .int .i64 q.kb, .int .i64 q.ta, .int .i64 q.tb, .int .i64 q.la, .int .i64 q.lb, .bool q.hop, .bool q.fin]
  have bx2 := bx.alloc (.cells #[.string (str q.name), .int .i64 q.ka, .int .i64 q.kb, .int .i64 q.ta, .int .i64 q.tb, .int .i64 q.la, .int .i64 q.lb, .bool q.hop, .bool q.fin] 95)
  have br2 := br.alloc (.cells #[.string (str q.name), .int .i64 q.ka, .int .i64 q.kb, .int .i64 q.ta, .int .i64 q.tb, .int .i64 q.la, .int .i64 q.lb, .bool q.hop, .bool q.fin] 95)
  have hK2 := hK.alloc (.cells #[.string (str q.name), .int .i64 q.ka, .int .i64 q.kb, .int .i64 q.ta, .int .i64 q.tb, .int .i64 q.la, .int .i64 q.lb, .bool q.hop, .bool q.fin] 95)
  obtain ⟨w2, hw2⟩ : ∃ w2, w1.alloc (.cells #[.string (str q.name), .int .i64 q.ka, .int .i64 q.kb, .int .i64 q.ta, .int .i64 q.tb, .int .i64 q.la, .int .i64 q.lb, .bool q.hop, .bool q.fin] 95) = w2 := ⟨_, rfl⟩
  rw [hw2] at b2 bx2 br2 hK2
  have HW := Lib.hid hw2
  rw [hw2]
  clear hw2 bx br hK k1
  · refine wp_region_sh ((0, false) :: (1, false) :: (2, false) :: (3, false) :: (4, false) :: (5, false) :: (7, false) :: (8, false) :: (6, true) :: (9, false) :: (10, false) :: (11, false) :: (12, false) :: (13, false) :: (14, false) :: (15, false) :: (17, false) :: (18, false) :: (16, true) :: (19, false) :: (20, false) :: (21, false) :: []) (fun w' => Keep NoB w2 w') (by kernel_rfl) (by kernel_rfl) (by rfl) (by kernel_rfl) (stable_keep w2) (Keep.refl NoB w2).drew ?_
    refine shM_step rfl rfl rfl (by rfl) (by rfl) ?_
    apply Exists.intro
    refine ⟨fun n K hK => ?_, ?_, ?_⟩
    · go_big_quiet_op
      exact hK _ rfl
    · kernel_rfl
    refine shM_step rfl rfl rfl (by rfl) (by rfl) ?_
    apply Exists.intro
    refine ⟨fun n K hK => ?_, ?_, ?_⟩
    · go_big_quiet_op
      exact hK _ rfl
    · kernel_rfl
    refine shM_step rfl rfl rfl (by rfl) (by rfl) ?_
    apply Exists.intro
    refine ⟨fun n K hK => ?_, ?_, ?_⟩
    · go_big_quiet_op
      exact hK _ rfl
    · kernel_rfl
    refine shM_step rfl rfl rfl (by rfl) (by rfl) ?_
    apply Exists.intro
    refine ⟨fun n K hK => ?_, ?_, ?_⟩
    · go_big_quiet_op
      exact hK _ rfl
    · kernel_rfl
    refine shM_step rfl rfl rfl (by rfl) (by rfl) ?_
    apply Exists.intro
    refine ⟨fun n K hK => ?_, ?_, ?_⟩
    · go_big_quiet_op
      exact hK _ rfl
    · kernel_rfl
    refine shM_step rfl rfl rfl (by rfl) (by rfl) ?_
    apply Exists.intro
    refine ⟨fun n K hK => ?_, ?_, ?_⟩
    · have q1 : ∀ m : KW n.w, m.w.cell? ⟨w1.heap.size, 1, none⟩ = some (.int .i64 q.ka) := fun m => (b2.keep (keepN n.has m.keep) id).cell 1
      go_big_quiet_op
      exact hK _ rfl
    · kernel_rfl
    refine shM_step rfl rfl rfl (by rfl) (by rfl) ?_
    apply Exists.intro
    refine ⟨fun n K hK => ?_, ?_, ?_⟩
    · go_big_quiet_op
      exact hK _ rfl
    · kernel_rfl
    refine shM_step rfl rfl rfl (by rfl) (by rfl) ?_
    apply Exists.intro
    refine ⟨fun n K hK => ?_, ?_, ?_⟩
    · have x1 : ∀ m : KW n.w, m.w.cell? ⟨w.heap.size, 1, none⟩ = some (.int .i64 a) := fun m => (bx2.keep (keepN n.has m.keep) id).cell 1
      go_big_quiet_op
      exact hK _ rfl
    · kernel_rfl
    refine shM_gen rfl rfl (by kernel_rfl) (fun v _ => ∃ sh gu, v = opV q.ka sh gu) (fun v w w' h _ => h) (fun n => ?_) (fun v1 => ?_)
    · unfold yieldsK
      go_simp
      exact op_gen q.ka hka _
    simp only [Act.put, List.setIfInBounds_toArray, List.set_cons_zero, List.set_cons_succ]
    refine shM_step rfl rfl rfl (by rfl) (by rfl) ?_
    apply Exists.intro
    refine ⟨fun n K hK => ?_, ?_, ?_⟩
    · go_big_quiet_op
      apply Exists.intro
      refine ⟨fun m => ?_, ?_⟩
      · go_at_call 72
        exact kept_of (has_gen q.ka a v1 true _ HA.out n.has.2)
      · exact hK _ rfl
    · kernel_rfl
    refine shM_step rfl rfl rfl (by rfl) (by rfl) ?_
    apply Exists.intro
    refine ⟨fun n K hK => ?_, ?_, ?_⟩
    · go_big_quiet_op
      exact hK _ rfl
    · kernel_rfl
    refine shM_step rfl rfl rfl (by rfl) (by rfl) ?_
    apply Exists.intro
    refine ⟨fun n K hK => ?_, ?_, ?_⟩
    · go_big_quiet_op
      exact hK _ rfl
    · kernel_rfl
    refine shM_step rfl rfl rfl (by rfl) (by rfl) ?_
    apply Exists.intro
    refine ⟨fun n K hK => ?_, ?_, ?_⟩
    · go_big_quiet_op
      exact hK _ rfl
    · kernel_rfl
    refine shM_step rfl rfl rfl (by rfl) (by rfl) ?_
    apply Exists.intro
    refine ⟨fun n K hK => ?_, ?_, ?_⟩
    · go_big_quiet_op
      exact hK _ rfl
    · kernel_rfl
    refine shM_step rfl rfl rfl (by rfl) (by rfl) ?_
    apply Exists.intro
    refine ⟨fun n K hK => ?_, ?_, ?_⟩
    · go_big_quiet_op
      exact hK _ rfl
    · kernel_rfl
    refine shM_step rfl rfl rfl (by rfl) (by rfl) ?_
    apply Exists.intro
    refine ⟨fun n K hK => ?_, ?_, ?_⟩
    · have q1 : ∀ m : KW n.w, m.w.cell? ⟨w1.heap.size, 2, none⟩ = some (.int .i64 q.kb) := fun m => (b2.keep (keepN n.has.1 m.keep) id).cell 2
      go_big_quiet_op
      exact hK _ rfl
    · kernel_rfl
    refine shM_step rfl rfl rfl (by rfl) (by rfl) ?_
    apply Exists.intro
    refine ⟨fun n K hK => ?_, ?_, ?_⟩
    · go_big_quiet_op
      exact hK _ rfl
    · kernel_rfl
    refine shM_step rfl rfl rfl (by rfl) (by rfl) ?_
    apply Exists.intro
    refine ⟨fun n K hK => ?_, ?_, ?_⟩
    · have x1 : ∀ m : KW n.w, m.w.cell? ⟨w.heap.size, 2, none⟩ = some (.int .i64 b) := fun m => (bx2.keep (keepN n.has.1 m.keep) id).cell 2
      go_big_quiet_op
      exact hK _ rfl
    · kernel_rfl
    refine shM_gen rfl rfl (by kernel_rfl) (fun v _ => ∃ sh gu, v = opV q.kb sh gu) (fun v w w' h _ => h) (fun n => ?_) (fun v2 => ?_)
    · unfold yieldsK
      go_simp
      exact op_gen q.kb hkb _
    simp only [Act.put, List.setIfInBounds_toArray, List.set_cons_zero, List.set_cons_succ]
    refine shM_step rfl rfl rfl (by rfl) (by rfl) ?_
    apply Exists.intro
    refine ⟨fun n K hK => ?_, ?_, ?_⟩
    · go_big_quiet_op
      apply Exists.intro
      refine ⟨fun m => ?_, ?_⟩
      · go_at_call 72
        exact kept_of (has_gen q.kb b v2 true _ HB.out n.has.2)
      · exact hK _ rfl
    · kernel_rfl
    refine shM_step rfl rfl rfl (by rfl) (by rfl) ?_
    apply Exists.intro
    refine ⟨fun n K hK => ?_, ?_, ?_⟩
    · go_big_quiet_op
      exact hK _ rfl
    · kernel_rfl
    refine shM_step rfl rfl rfl (by rfl) (by rfl) ?_
    apply Exists.intro
    refine ⟨fun n K hK => ?_, ?_, ?_⟩
    · go_big_quiet_op
      exact hK _ rfl
    · kernel_rfl
    refine shM_nil (fun n => ?_)
    have k3 := n.has.1.1
    generalize n.w = w3 at k3 ⊢
    have b3 := b2.keep k3 id
    have br3 := br2.keep k3 id
    have hK3 := keepN hK2 k3
    have f0 := fun i => br3.frozen i
    obtain ⟨c0, c1, c2, c3, c4, c5, c6, c7, c8⟩ := blk9 br3
    obtain ⟨d0, d1, d2, d3, d4, d5, d6, d7, d8⟩ := blk9 b3
    have hz3 := br3.lt
    clear k3 b2 br2 hK2 bx2
    go_wp2
    exact bodyPost_ret (v := .tuple #[rowV q, .bool true]) (by simp [results, Tryz.results49, go_sem, c0, c1, c2, c3, c4, c5, c6, c7, c8]) rfl ⟨rfl, keep9 hK3 (Nat.le_succ _) _ _ _ _ _ _ _ _ _⟩

theorem rowFor_any (op a b : Int) (r : Row) (w : World) (hr : Hid (rowR op a b = r)) : Calls Tryz.prog 49 #[instV op a b] w (ForR r (okI op a b) w) := by
  obtain ⟨h1, h2, h3, h4⟩ := kinds_ok op
  have hr := hr.out
  subst hr
  cases ho : isOp op
  · have hok : okI op a b = false := by unfold okI; rw [ho]; rfl
    rw [rowR_no hok, hok]
    exact rowFor_a op a b _ w rfl ho
  · cases ha : inK (rowAt op).ka a
    · have hok : okI op a b = false := by unfold okI; rw [ho, ha]; rfl
      rw [rowR_no hok, hok]
      exact rowFor_b op a b _ w rfl ho ha ⟨h1, h2⟩
    · cases hb : inK (rowAt op).kb b
      · have hok : okI op a b = false := by unfold okI; rw [ho, ha, hb]; rfl
        rw [rowR_no hok, hok]
        exact rowFor_c op a b _ w rfl ho ha hb ⟨h1, h2⟩ ⟨h3, h4⟩
      · have hok : okI op a b = true := by unfold okI; rw [ho, ha, hb]; rfl
        rw [rowR_ok hok, hok]
        exact rowFor_d op a b _ w rfl ho ha hb ⟨h1, h2⟩ ⟨h3, h4⟩

end Go.Proofs.YtonpplpfipfnfaaGreatDoor.O

namespace Go.Proofs.YtonpplpfipfnfaaGreatDoor.O
open Go.RowKit

def chk (op a b : Int) : Int := if okI op a b = true then 0 else 40
def endsI (op a b : Int) : Bool := (rowR op a b).fin
def goesI (op a b : Int) : Bool := decide ((rowR op a b).ka = 10)
def goesN (op a b : Int) : Int := if goesI op a b = true then a else 0
theorem pr2 {a a' : Int} {b b' : Bool} (h1 : a = a') (h2 : b = b') : Ending.returned (.tuple #[.int .i64 a, .bool b]) = .returned (.tuple #[.int .i64 a', .bool b']) := by rw [h1, h2]

set_option maxHeartbeats 1000000 in
theorem check_any (op a b : Int) (w : World) :
    Calls Tryz.prog 40 #[instV op a b] w fun e w' => e = .returned (.int .i64 (chk op a b)) ∧ Keep NoB w w' := by
  have hK := (Keep.refl NoB w).alloc (.cells #[.int .i64 op, .int .i64 a, .int .i64 b] 46)
  obtain ⟨r, hr⟩ : ∃ r, Hid (rowR op a b = r) := ⟨_, rfl⟩
  have HR := Lib.hid (fun w => rowFor_any op a b r w hr)
  cases hok : okI op a b
  · have HX : Hid (chk op a b = 40) := by show _ = _; unfold chk; rw [if_neg (by rw [hok]; decide)]
    rw [hok] at HR
    clear hok hr
    go_enter Tryz.func40, Tryz.ntmps40
    go_wp2_with fail
    refine (HR.out _).mono ?_
    rintro e w1 ⟨rfl, k1⟩
    go_wp2
    go_ret
    exact ⟨by rw [HX.out]; rfl, (keepN hK k1).alloc _⟩
  · have HX : Hid (chk op a b = 0) := by show _ = _; unfold chk; rw [if_pos hok]
    rw [hok] at HR
    clear hok hr
    go_enter Tryz.func40, Tryz.ntmps40
    go_wp2_with fail
    refine (HR.out _).mono ?_
    rintro e w1 ⟨rfl, k1⟩
    go_wp2
    go_ret
    exact ⟨by rw [HX.out]; rfl, (keepN hK k1).alloc _⟩

set_option maxHeartbeats 1000000 in
theorem ends_any (op a b : Int) (w : World) :
    Calls Tryz.prog 28 #[instV op a b] w fun e w' => e = .returned (.bool (endsI op a b)) ∧ Keep NoB w w' := by
  have hK := (Keep.refl NoB w).alloc (.cells #[.int .i64 op, .int .i64 a, .int .i64 b] 46)
  obtain ⟨r, hr⟩ : ∃ r, Hid (rowR op a b = r) := ⟨_, rfl⟩
  have HR := Lib.hid (fun w => rowFor_any op a b r w hr)
  have HX : Hid (endsI op a b = r.fin) := by show _ = _; unfold endsI; rw [hr.out]
  clear hr
  go_enter Tryz.func28, Tryz.ntmps28
  go_wp2_with fail
  refine (HR.out _).mono ?_
  rintro e w1 ⟨rfl, k1⟩
  go_wp2
  go_ret
  exact ⟨by rw [HX.out]; rfl, (keepN hK k1).alloc _⟩

set_option maxHeartbeats 1000000 in
theorem goes_any (op a b : Int) (w : World) :
    Calls Tryz.prog 27 #[instV op a b] w fun e w' => e = .returned (.tuple #[.int .i64 (goesN op a b), .bool (goesI op a b)]) ∧ Keep NoB w w' := by
  have hB := Blk.new w 46 #[.int .i64 op, .int .i64 a, .int .i64 b]
  have hK := (Keep.refl NoB w).alloc (.cells #[.int .i64 op, .int .i64 a, .int .i64 b] 46)
  obtain ⟨r, hr⟩ : ∃ r, Hid (rowR op a b = r) := ⟨_, rfl⟩
  have HR := Lib.hid (fun w => rowFor_any op a b r w hr)
  by_cases hg : r.ka = 10
  · have h1 : goesI op a b = true := decide_eq_true (by rw [hr.out]; exact hg)
    have HX : Hid (goesN op a b = a ∧ goesI op a b = true) := ⟨by unfold goesN; rw [if_pos h1], h1⟩
    have hq : (r.ka != 10) = false := by rw [bne_eq_false_iff_eq]; exact hg
    clear hg h1 hr
    go_enter Tryz.func27, Tryz.ntmps27
    go_wp2_with fail
    refine (HR.out _).mono ?_
    rintro e w1 ⟨rfl, k1⟩
    have b1 := hB.keep k1 id
    have c1 : w1.cell? ⟨w.heap.size, 1, none⟩ = some (.int .i64 a) := b1.cell 1
    have hz := b1.lt
    have c2 : ∀ o, (w1.alloc o).cell? ⟨w.heap.size, 1, none⟩ = some (.int .i64 a) := fun o => (World.cell?_alloc_lt _ _ _ hz).trans c1
    go_wp2
    go_ret2
    exact ⟨pr2 HX.out.1.symm HX.out.2.symm, (keepN hK k1).alloc _⟩
  · have h1 : goesI op a b = false := decide_eq_false (by rw [hr.out]; exact hg)
    have HX : Hid (goesN op a b = 0 ∧ goesI op a b = false) := ⟨by unfold goesN; rw [if_neg (by rw [h1]; decide)], h1⟩
    have hq : (r.ka != 10) = true := by rw [bne_iff_ne]; exact hg
    clear hg h1 hr
    go_enter Tryz.func27, Tryz.ntmps27
    go_wp2_with fail
    refine (HR.out _).mono ?_
    rintro e w1 ⟨rfl, k1⟩
    go_wp2
    go_ret2
    exact ⟨pr2 HX.out.1.symm HX.out.2.symm, (keepN hK k1).alloc _⟩

set_option maxHeartbeats 1000000 in
theorem kinds_any (op : Int) (w : World) :
    Calls Tryz.prog 58 #[.int .i64 op] w fun e w' => e = .returned (.tuple #[.int .i64 (rowAt op).ka, .int .i64 (rowAt op).kb]) ∧ Keep NoB w w' := by
  obtain ⟨r, hr⟩ : ∃ r, Hid (rowAt op = r) := ⟨_, rfl⟩
  have HR := Lib.hid (fun w => rowOf_any op r w hr)
  rw [hr.out]
  clear hr
  go_enter Tryz.func58, Tryz.ntmps58
  go_wp2_with fail
  refine (HR.out _).mono ?_
  rintro e w1 ⟨rfl, k1⟩
  have b2 := Blk.new w1 95 (cells9 r)
  go_wp2
  go_quiet (fail)
  go_wp2
  go_ret2
  exact ⟨rfl, (k1.alloc _).drewN _⟩

set_option maxHeartbeats 1000000 in
theorem name_any (op : Int) (w : World) :
    Calls Tryz.prog 29 #[.int .i64 op] w fun e w' => e = .returned (.string (str (rowAt op).name)) ∧ Keep NoB w w' := by
  obtain ⟨r, hr⟩ : ∃ r, Hid (rowAt op = r) := ⟨_, rfl⟩
  have HR := Lib.hid (fun w => rowOf_any op r w hr)
  rw [hr.out]
  clear hr
  go_enter Tryz.func29, Tryz.ntmps29
  go_wp2_with fail
  refine (HR.out _).mono ?_
  rintro e w1 ⟨rfl, k1⟩
  go_wp2
  go_ret
  exact ⟨rfl, k1.alloc _⟩

end Go.Proofs.YtonpplpfipfnfaaGreatDoor.O

namespace Go.Proofs.YtonpplpfipfnfaaGreatDoor.C
open Go.RowKit O

/-- An instruction: its op, and its operands. -/
abbrev I3 := Int × Int × Int
/-- Instructions as cells. -/
def iis (l : List I3) : List Value := l.flatMap fun x => [.int .i64 x.1, .int .i64 x.2.1, .int .i64 x.2.2]
theorem iis_nil : iis [] = [] := rfl
theorem iis_cons (x : I3) (l : List I3) : iis (x :: l) = [.int .i64 x.1, .int .i64 x.2.1, .int .i64 x.2.2] ++ iis l := by unfold iis; rw [List.flatMap_cons]
theorem iis_append (l r : List I3) : iis (l ++ r) = iis l ++ iis r := by unfold iis; rw [List.flatMap_append]
theorem iis_one (x : I3) : iis [x] = [.int .i64 x.1, .int .i64 x.2.1, .int .i64 x.2.2] := rfl
theorem iis_length (l : List I3) : (iis l).length = l.length * 3 := by
  induction l with
  | nil => rfl
  | cons v l ih => rw [iis_cons, List.length_append, ih]; simp; omega
theorem iis_at : ∀ (l : List I3) (i : Nat) (h : i < l.length), (iis l)[i * 3]? = some (.int .i64 l[i].1) ∧ (iis l)[i * 3 + 1]? = some (.int .i64 l[i].2.1) ∧ (iis l)[i * 3 + 2]? = some (.int .i64 l[i].2.2)
  | v :: l, 0, _ => by rw [iis_cons]; exact ⟨rfl, rfl, rfl⟩
  | v :: l, i + 1, h => by
    have := iis_at l i (by simpa using h)
    rw [iis_cons, show (i + 1) * 3 = i * 3 + 3 by omega]
    exact ⟨by simpa using this.1, by simpa using this.2.1, by simpa using this.2.2⟩
theorem iis_cells (l : List I3) : ∀ u ∈ iis l, u.oneCell' = true := by
  intro u hu
  obtain ⟨b, _, hb⟩ := List.mem_flatMap.1 hu
  rcases List.mem_cons.1 hb with rfl | hb
  · rfl
  · rcases List.mem_cons.1 hb with rfl | hb
    · rfl
    · rw [List.mem_singleton.1 hb]; rfl
theorem iis_take (l : List I3) (k : Nat) : (iis l).take (k * 3) = iis (l.take k) := by
  induction l generalizing k with
  | nil => simp [iis]
  | cons x l ih =>
    cases k with
    | zero => simp [iis]
    | succ k => rw [iis_cons, show (k + 1) * 3 = [Value.int .i64 x.1, .int .i64 x.2.1, .int .i64 x.2.2].length + k * 3 by simp; omega, List.take_length_add_append, ih, List.take_succ_cons, iis_cons]
theorem iis_drop (l : List I3) (k : Nat) : (iis l).drop (k * 3) = iis (l.drop k) := by
  induction l generalizing k with
  | nil => simp [iis]
  | cons x l ih =>
    cases k with
    | zero => simp
    | succ k => rw [iis_cons, show (k + 1) * 3 = [Value.int .i64 x.1, .int .i64 x.2.1, .int .i64 x.2.2].length + k * 3 by simp; omega, List.drop_length_add_append, ih, List.drop_succ_cons]
theorem rdJ_at {w : World} {A : Option Addr} {l : List I3} (h : Rd w A (iis l)) (h0 : 0 < l.length) : ∃ g off, A = some ⟨g, off, none⟩ ∧
    ∀ (i : Nat) (hi : i < l.length), w.cell? ⟨g, off + i * 3, none⟩ = some (.int .i64 l[i].1) ∧ w.cell? ⟨g, off + i * 3 + 1, none⟩ = some (.int .i64 l[i].2.1) ∧ w.cell? ⟨g, off + i * 3 + 2, none⟩ = some (.int .i64 l[i].2.2) := by
  obtain ⟨g, off, e, hc⟩ := h (by rw [iis_length]; omega)
  refine ⟨g, off, e, fun i hi => ?_⟩
  obtain ⟨h1, h2, h3⟩ := iis_at l i hi
  exact ⟨hc _ _ h1, hc _ _ h2, hc _ _ h3⟩

/-- May it be; does it end; does it go, and where to? -/
def ok1 (x : I3) : Bool := okI x.1 x.2.1 x.2.2
def eB (x : I3) : Bool := endsI x.1 x.2.1 x.2.2
def gB (x : I3) : Bool := goesI x.1 x.2.1 x.2.2
def gN (x : I3) : Int := goesN x.1 x.2.1 x.2.2
theorem gB_ka {x : I3} (h : gB x = true) : ok1 x = true ∧ (O.rowAt x.1).ka = 10 := by
  have h := of_decide_eq_true h
  cases hk : okI x.1 x.2.1 x.2.2
  · rw [rowR_no hk] at h; exact absurd h (by decide)
  · rw [rowR_ok hk] at h; exact ⟨hk, h⟩
theorem ka_gB {x : I3} (h : ok1 x = true) (hk : (O.rowAt x.1).ka = 10) : gB x = true := by
  unfold gB goesI; rw [rowR_ok h, hk]; rfl
theorem gB_in {x : I3} (h : gB x = true) : 0 ≤ x.2.1 ∧ x.2.1 ≤ 511 := by
  obtain ⟨h1, h2⟩ := gB_ka h
  have h3 := (ok_op h1).2.1
  rw [h2] at h3
  exact of_decide_eq_true h3
theorem gN_yes {x : I3} (h : gB x = true) : gN x = x.2.1 := if_pos h
theorem gN_no {x : I3} (h : gB x = false) : gN x = 0 := if_neg (by unfold gB at h; rw [h]; decide)
theorem gN_in (x : I3) : 0 ≤ gN x ∧ gN x ≤ 511 := by
  cases h : gB x
  · rw [gN_no h]; decide
  · rw [gN_yes h]; exact gB_in h
/-- One that goes may go anywhere. -/
theorem gB_put {x : I3} (h : gB x = true) {a : Int} (h0 : 0 ≤ a) (h1 : a ≤ 511) : gB (x.1, a, x.2.2) = true := by
  obtain ⟨hk, he⟩ := gB_ka h
  obtain ⟨p1, p2, p3⟩ := ok_op hk
  refine ka_gB (x := (x.1, a, x.2.2)) ?_ he
  show okI x.1 a x.2.2 = true
  unfold okI
  rw [p1, p3, he]
  simp [inK, lo, hi, h0, h1]

/-- Is a list a body? -/
def itemB (n : Nat) (x : I3) : Bool := ok1 x && decide (gN x < (n : Int))
def lastB (l : List I3) : Bool := match l.getLast? with | some x => eB x | none => false
def okB (l : List I3) : Bool := decide (l.length ≤ 512) && lastB l && l.all (itemB l.length)
def chkB (l : List I3) : Int := if okB l = true then 0 else 50
theorem chkB_ok {l : List I3} (h : okB l = true) : chkB l = 0 := if_pos h
theorem chkB_no {l : List I3} (h : okB l = false) : chkB l = 50 := if_neg (by rw [h]; decide)
theorem okB_parts {l : List I3} (h : okB l = true) : 1 ≤ l.length ∧ l.length ≤ 512 ∧ lastB l = true ∧ l.all (itemB l.length) = true := by
  unfold okB at h
  simp only [Bool.and_eq_true, decide_eq_true_eq] at h
  refine ⟨?_, h.1.1, h.1.2, h.2⟩
  rcases l with _ | ⟨x, l⟩
  · exact absurd h.1.2 (by decide)
  · simp
theorem okB_mk {l : List I3} (h1 : l.length ≤ 512) (h2 : lastB l = true) (h3 : l.all (itemB l.length) = true) : okB l = true := by
  unfold okB; rw [decide_eq_true h1, h2, h3]; rfl
theorem okB_nil : okB [] = false := rfl
theorem okB_long {l : List I3} (h : ¬ l.length ≤ 512) : okB l = false := by unfold okB; rw [decide_eq_false h]; rfl
theorem okB_last {l : List I3} (h : lastB l = false) : okB l = false := by unfold okB; rw [h]; simp
theorem okB_item {l : List I3} (h : l.all (itemB l.length) = false) : okB l = false := by unfold okB; rw [h]; simp
theorem lastB_at {l : List I3} (h : 0 < l.length) : lastB l = eB (l[l.length - 1]'(by omega)) := by
  unfold lastB
  rw [List.getLast?_eq_getElem?, List.getElem?_eq_getElem (by omega)]
theorem item_parts {n : Nat} {x : I3} (h : itemB n x = true) : ok1 x = true ∧ gN x < (n : Int) := by
  unfold itemB at h
  simp only [Bool.and_eq_true, decide_eq_true_eq] at h
  exact h
theorem item_no1 {n : Nat} {x : I3} (h : ok1 x = false) : itemB n x = false := by unfold itemB; rw [h]; rfl
theorem item_no2 {n : Nat} {x : I3} (h : ¬ gN x < (n : Int)) : itemB n x = false := by unfold itemB; rw [decide_eq_false h]; simp
theorem item_yes {n : Nat} {x : I3} (h1 : ok1 x = true) (h2 : gN x < (n : Int)) : itemB n x = true := by unfold itemB; rw [h1, decide_eq_true h2]; rfl
theorem all_no {n : Nat} {l : List I3} {k : Nat} (hk : k < l.length) (h : itemB n l[k] = false) : l.all (itemB n) = false := by
  rw [List.all_eq_false]; exact ⟨_, List.getElem_mem hk, by rw [h]; decide⟩
theorem okB_at {l : List I3} (h : okB l = true) {k : Nat} (hk : k < l.length) : itemB l.length l[k] = true := List.all_eq_true.1 (okB_parts h).2.2.2 _ (List.getElem_mem hk)

/-- A body's bytes. -/
def byt (l : List I3) : List UInt8 := l.flatMap fun x => bytesI x.1 x.2.1 x.2.2
theorem byt_snoc (l : List I3) (x : I3) : byt (l ++ [x]) = byt l ++ bytesI x.1 x.2.1 x.2.2 := by unfold byt; simp
def bytesB (l : List I3) : List UInt8 := V.encL l.length ++ byt l
def encB (l : List I3) : List UInt8 := if okB l = true then bytesB l else []
theorem encI_ok {x : I3} (h : ok1 x = true) : O.encI x.1 x.2.1 x.2.2 = bytesI x.1 x.2.1 x.2.2 := if_pos h

/-- How many have an op. -/
def cntB (l : List I3) (op : Int) : Nat := l.countP fun x => x.1 == op
theorem cntB_snoc (l : List I3) (x : I3) (op : Int) : cntB (l ++ [x]) op = cntB l op + if x.1 == op then 1 else 0 := by
  unfold cntB; rw [List.countP_append, List.countP_singleton]

/-- One whose place is behind another one goes so much farther. -/
def gone (at_ : Int) (by_ : Int) (x : I3) : I3 := if gB x = true ∧ at_ < gN x then (x.1, x.2.1 + by_, x.2.2) else x
def insL (l : List I3) (k : Nat) (x : I3) : List I3 := (l.take k).map (gone k 1) ++ x :: (l.drop k).map (gone k 1)
def delL (l : List I3) (k : Nat) : List I3 := (l.take k).map (gone k (-1)) ++ (l.drop (k + 1)).map (gone k (-1))
theorem insL_length (l : List I3) (k : Nat) (x : I3) : (insL l k x).length = l.length + 1 := by
  unfold insL; simp; omega
theorem delL_length {l : List I3} {k : Nat} (h : k < l.length) : (delL l k).length = l.length - 1 := by
  unfold delL; simp; omega

/-- Is a place of a body a head? -/
def at0 (l : List I3) (i : Nat) : I3 := l.getD i (0, 0, 0)
theorem at0_of {l : List I3} {i : Nat} (h : i < l.length) : at0 l i = l[i] := by unfold at0; simp [List.getD, h]
def headB (l : List I3) (i : Nat) : Bool := decide (i = 0) || eB (at0 l (i - 1)) || gB (at0 l (i - 1)) || l.any fun x => gB x && decide (gN x = (i : Int))
def headsL (l : List I3) : List Nat := (List.range l.length).filter (headB l)
/-- The place behind a stretch's last one. -/
def nextH (l : List I3) (h : Nat) : Nat := ((List.range' (h + 1) (l.length - (h + 1))).find? (headB l)).getD l.length

end Go.Proofs.YtonpplpfipfnfaaGreatDoor.C

namespace Go.Proofs.YtonpplpfipfnfaaGreatDoor.C
open Go.RowKit O

theorem goes_gen (op a b to : Int) (t : Bool) (w : World) (h1 : goesN op a b = to) (h2 : goesI op a b = t) :
    Calls Tryz.prog 27 #[instV op a b] w fun e w' => e = .returned (.tuple #[.int .i64 to, .bool t]) ∧ Keep NoB w w' := by subst h1 h2; exact goes_any op a b w
theorem ends_gen (op a b : Int) (t : Bool) (w : World) (h : endsI op a b = t) :
    Calls Tryz.prog 28 #[instV op a b] w fun e w' => e = .returned (.bool t) ∧ Keep NoB w w' := by subst h; exact ends_any op a b w
theorem chk_gen (op a b c : Int) (w : World) (h : chk op a b = c) :
    Calls Tryz.prog 40 #[instV op a b] w fun e w' => e = .returned (.int .i64 c) ∧ Keep NoB w w' := by subst h; exact check_any op a b w
theorem blk3 {w : World} {g : Nat} {t : TypeId} {a0 a1 a2 : Value} (h : Blk w g t #[a0, a1, a2]) : w.cell? ⟨g, 0, none⟩ = some a0 ∧ w.cell? ⟨g, 1, none⟩ = some a1 ∧ w.cell? ⟨g, 2, none⟩ = some a2 := ⟨h.cell 0, h.cell 1, h.cell 2⟩

set_option maxRecDepth 100000 in
set_option maxHeartbeats 4000000 in
theorem cchk_any (A : Option Addr) (l : List I3) (n c : Nat) (w : World) (hr : Rd w A (iis l)) (hn : Hid (l.length = n)) (hm : n ≤ 9223372036854775807) (R : Int) (hR : Hid (chkB l = R)) :
    Calls Tryz.prog 17 #[.slice A n c] w fun e w' => e = .returned (.int .i64 R) ∧ Keep NoB w w' := by
  by_cases h0 : n = 0
  · subst h0
    obtain rfl : 50 = R := by rw [← hR.out, List.length_eq_zero_iff.1 hn.out]; rfl
    go_enter Tryz.func17, Tryz.ntmps17
    go_wp2
    go_ret
    exact ⟨rfl, Keep.refl _ _⟩
  have hz : ((n : Int) == 0) = false := by rw [beq_eq_false_iff_ne]; omega
  by_cases h5 : 512 < n
  · obtain rfl : 50 = R := by rw [← hR.out, chkB_no (okB_long (by rw [hn.out]; omega))]
    have hq : decide ((512 : Int) < (n : Int)) = true := by rw [decide_eq_true_iff]; omega
    clear h5 h0
    go_enter Tryz.func17, Tryz.ntmps17
    go_wp2
    go_ret
    exact ⟨rfl, Keep.refl _ _⟩
  have hq : decide ((512 : Int) < (n : Int)) = false := by rw [decide_eq_false_iff_not]; omega
  obtain ⟨m, rfl⟩ : ∃ m, n = m + 1 := ⟨n - 1, by omega⟩
  have hz2 : ((m : Int) + 1 == 0) = false := by rw [beq_eq_false_iff_ne]; omega
  have hq2 : decide ((512 : Int) < (m : Int) + 1) = false := by rw [decide_eq_false_iff_not]; omega
  have hl0 : 0 < l.length := by rw [hn.out]; omega
  obtain ⟨g, off, rfl, hc⟩ := rdJ_at hr hl0
  have hml : m < l.length := by rw [hn.out]; omega
  obtain ⟨c0, c1, c2⟩ := hc m hml
  have HC := Lib.hid hc
  have hlast : Hid (lastB l = eB l[m]) := by
    show _ = _
    rw [lastB_at hl0]
    congr 2
    rw [hn.out]; omega
  clear hc hr h0 h5 hl0
  generalize l[m] = x at c0 c1 c2 hlast
  obtain ⟨op, a, b⟩ := x
  dsimp only at c0 c1 c2
  cases he : endsI op a b
  · obtain rfl : 50 = R := by rw [← hR.out, chkB_no (okB_last (by rw [hlast.out]; exact he))]
    have HE := Lib.hid (fun w => ends_gen op a b _ w he)
    clear he hlast HC hR
    go_enter Tryz.func17, Tryz.ntmps17
    go_wp2_with (go_at_call 28; refine (HE.out _).mono ?_; rintro e w1 ⟨rfl, k1⟩)
    go_ret
    exact ⟨rfl, k1⟩
  have HL : Hid (lastB l = true) := by show _ = _; rw [hlast.out]; exact he
  have HE := Lib.hid (fun w => ends_gen op a b _ w he)
  clear he hlast
  go_enter Tryz.func17, Tryz.ntmps17
  go_wp2_with (go_at_call 28; refine (HE.out _).mono ?_; rintro e w1 ⟨rfl, k1⟩)
  clear c0 c1 c2 HE hml
  go_loopw [27] (fun i wr => ∃ k : Nat, k ≤ m + 1 ∧ i = .int .i64 k ∧ Hid ((l.take k).all (itemB (m + 1)) = true) ∧ Keep NoB w wr) (fun i _ => m + 1 - (intOf i).toNat)
  case atStart => exact ⟨0, Nat.zero_le _, rfl, rfl, k1⟩
  case round =>
    obtain ⟨k, hk, rfl, hall, hK⟩ := hrel
    by_cases hlt : k < m + 1
    · have hkl : k < l.length := by rw [hn.out]; exact hlt
      obtain ⟨d0, d1, d2⟩ := HC.out k hkl
      have c0 := hK.cell d0 id
      have c1 := hK.cell d1 id
      have c2 := hK.cell d2 id
      have HT := Lib.hid (show l.take (k + 1) = l.take k ++ [l[k]] from List.take_succ_eq_append_getElem hkl)
      have HN : Hid (itemB l.length l[k] = false → 50 = R) := fun h => by rw [← hR.out, chkB_no (okB_item (all_no hkl h))]
      rw [hn.out] at HN
      clear d0 d1 d2
      generalize l[k] = x at c0 c1 c2 HT HN
      obtain ⟨op, a, b⟩ := x
      dsimp only at c0 c1 c2
      obtain ⟨to, hto⟩ : ∃ to, goesN op a b = to := ⟨_, rfl⟩
      have hb : 0 ≤ to ∧ to ≤ 511 := by rw [← hto]; exact gN_in (op, a, b)
      have HG := Lib.hid (fun w => goes_gen op a b to _ w hto rfl)
      have bx := Blk.new wr 46 #[.int .i64 op, .int .i64 a, .int .i64 b]
      have gK := hK.alloc (.cells #[.int .i64 op, .int .i64 a, .int .i64 b] 46)
      cases ho : okI op a b
      · obtain rfl := HN.out (item_no1 ho)
        have HO := Lib.hid (fun w => chk_gen op a b 40 w (by unfold chk; rw [ho]; rfl))
        clear ho hto HN HT HL hall hK hR
        go_wp2_with fail
        refine (HG.out _).mono ?_
        rintro e w2 ⟨rfl, k2⟩
        replace bx := bx.keep k2 id
        replace gK := keepN gK k2
        obtain ⟨x0, x1, x2⟩ := blk3 bx
        go_wp2_with (go_at_call 40; refine (HO.out _).mono ?_; rintro e w3 ⟨rfl, k3⟩)
        go_ret
        exact ⟨rfl, keepN gK k3⟩
      have HO := Lib.hid (fun w => chk_gen op a b 0 w (by unfold chk; rw [ho]; rfl))
      by_cases ht : to < ((m + 1 : Nat) : Int)
      · have ht2 : ¬ ((m : Int) + 1 ≤ to) := by omega
        have ha2 : Hid ((l.take (k + 1)).all (itemB (m + 1)) = true) := by
          show _ = _
          rw [HT.out, List.all_append, hall.out]
          simp only [List.all_cons, List.all_nil, Bool.and_true, Bool.true_and]
          exact item_yes ho (by show goesN op a b < _; rw [hto]; exact ht)
        clear ho hto HN HT HL hall hK hR ht
        go_wp2_with fail
        refine (HG.out _).mono ?_
        rintro e w2 ⟨rfl, k2⟩
        replace bx := bx.keep k2 id
        replace gK := keepN gK k2
        obtain ⟨x0, x1, x2⟩ := blk3 bx
        go_wp2_with (go_at_call 40; refine (HO.out _).mono ?_; rintro e w3 ⟨rfl, k3⟩)
        go_roundw
        case rel => exact ⟨k + 1, by omega, by go_num, ha2, keepN gK k3⟩
        case measure => simp [intOf]; omega
      · obtain rfl := HN.out (item_no2 (by show ¬ goesN op a b < _; rw [hto]; exact ht))
        have ht2 : ((m : Int) + 1 ≤ to) := by omega
        clear ho hto HN HT HL hall hK hR ht
        go_wp2_with fail
        refine (HG.out _).mono ?_
        rintro e w2 ⟨rfl, k2⟩
        replace bx := bx.keep k2 id
        replace gK := keepN gK k2
        obtain ⟨x0, x1, x2⟩ := blk3 bx
        go_wp2_with (go_at_call 40; refine (HO.out _).mono ?_; rintro e w3 ⟨rfl, k3⟩)
        go_ret
        exact ⟨rfl, keepN gK k3⟩
    · obtain rfl : 0 = R := by
        rw [← hR.out, chkB_ok (okB_mk (by rw [hn.out]; have := decide_eq_false_iff_not.1 hq; omega) HL.out ?_)]
        have := hall.out
        rw [List.take_of_length_le (by rw [hn.out]; omega)] at this
        rw [hn.out]; exact this
      clear HC hR
      go_wp2
      go_ret
      exact ⟨rfl, hK⟩

end Go.Proofs.YtonpplpfipfnfaaGreatDoor.C

namespace Go.Proofs.YtonpplpfipfnfaaGreatDoor.C
open Go.RowKit O

set_option maxRecDepth 100000 in
set_option maxHeartbeats 2000000 in
theorem count_any (A : Option Addr) (l : List I3) (n c : Nat) (op : Int) (w : World) (hr : Rd w A (iis l)) (hn : Hid (l.length = n)) (hm : n ≤ 9223372036854775807) (R : Int) (hR : Hid ((cntB l op : Int) = R)) :
    Calls Tryz.prog 23 #[.slice A n c, .int .i64 op] w fun e w' => e = .returned (.int .i64 R) ∧ Keep NoB w w' := by
  go_enter Tryz.func23, Tryz.ntmps23
  go_wp2
  go_loopw [5, 10] (fun s i wr => ∃ k m : Nat, k ≤ n ∧ i = .int .i64 k ∧ s = .int .i64 m ∧ m ≤ k ∧ Hid (cntB (l.take k) op = m) ∧ Keep NoB w wr) (fun _ i _ => n - (intOf i).toNat)
  case atStart => exact ⟨0, 0, Nat.zero_le _, rfl, rfl, Nat.le_refl _, rfl, Keep.refl _ _⟩
  case round =>
    obtain ⟨k, m, hk, rfl, rfl, hmk, hc, hK⟩ := hrel
    by_cases hlt : k < n
    · have hkl : k < l.length := by rw [hn.out]; exact hlt
      obtain ⟨g, off, rfl, hc0⟩ := rdJ_at hr (by omega)
      obtain ⟨d0, d1, d2⟩ := hc0 k hkl
      have c0 := hK.cell d0 id
      have c1 := hK.cell d1 id
      have c2 := hK.cell d2 id
      have HT := Lib.hid (show l.take (k + 1) = l.take k ++ [l[k]] from List.take_succ_eq_append_getElem hkl)
      clear hc0 d0 d1 d2 hr
      generalize l[k] = x at c0 c1 c2 HT
      obtain ⟨o1, a, b⟩ := x
      dsimp only at c0 c1 c2
      have gK := hK.alloc (.cells #[.int .i64 o1, .int .i64 a, .int .i64 b] 46)
      cases he : (o1 == op)
      · have hc2 : Hid (cntB (l.take (k + 1)) op = m) := by show _ = _; rw [HT.out, cntB_snoc, hc.out, he]; rfl
        clear HT hc hR hK
        go_wp2
        go_roundw
        case rel => exact ⟨k + 1, m, by omega, by go_num, rfl, by omega, hc2, gK⟩
        case measure => simp [intOf]; omega
      · have hc2 : Hid (cntB (l.take (k + 1)) op = m + 1) := by show _ = _; rw [HT.out, cntB_snoc, hc.out, he]; rfl
        clear HT hc hR hK
        go_wp2
        go_roundw
        case rel => exact ⟨k + 1, m + 1, by omega, by go_num, by go_num, by omega, hc2, gK⟩
        case measure => simp [intOf]; omega
    · obtain rfl : (m : Int) = R := by
        rw [← hR.out, ← hc.out, List.take_of_length_le (by rw [hn.out]; omega)]
      clear hc hR
      go_wp2
      go_ret
      exact ⟨rfl, hK⟩

/-- The slice, if the list is a body; nil, if it is not. -/
def ifV (l : List I3) (v : Value) : Value := if okB l = true then v else .slice none 0 0
theorem ifV_ok {l : List I3} (h : okB l = true) (v : Value) : ifV l v = v := if_pos h
theorem ifV_no {l : List I3} (h : okB l = false) (v : Value) : ifV l v = .slice none 0 0 := if_neg (by rw [h]; decide)

set_option maxRecDepth 100000 in
set_option maxHeartbeats 2000000 in
theorem ifBody_any (A : Option Addr) (l : List I3) (n c : Nat) (w : World) (hr : Rd w A (iis l)) (hn : Hid (l.length = n)) (hm : n ≤ 9223372036854775807) :
    Calls Tryz.prog 37 #[.slice A n c] w fun e w' => e = .returned (.tuple #[ifV l (.slice A n c), .int .i64 (chkB l)]) ∧ Keep NoB w w' := by
  cases ho : okB l
  · rw [ifV_no ho, chkB_no ho]
    have HC := Lib.hid (fun w hr => cchk_any A l n c w hr hn hm 50 (chkB_no ho))
    clear ho
    go_enter Tryz.func37, Tryz.ntmps37
    go_wp2_with (go_at_call 17; refine (HC.out _ hr).mono ?_; rintro e w1 ⟨rfl, k1⟩)
    go_ret2
    exact ⟨rfl, k1⟩
  · rw [ifV_ok ho, chkB_ok ho]
    have HC := Lib.hid (fun w hr => cchk_any A l n c w hr hn hm 0 (chkB_ok ho))
    clear ho
    go_enter Tryz.func37, Tryz.ntmps37
    go_wp2_with (go_at_call 17; refine (HC.out _ hr).mono ?_; rintro e w1 ⟨rfl, k1⟩)
    go_ret2
    exact ⟨rfl, k1⟩

/-- Is it a body that has the place? -/
def hasB (l : List I3) (k : Int) : Bool := decide (0 ≤ k ∧ k < (l.length : Int)) && okB l
theorem hasB_yes {l : List I3} {k : Int} (h : hasB l k = true) : (0 ≤ k ∧ k < (l.length : Int)) ∧ okB l = true := by
  unfold hasB at h; simpa using h

set_option maxRecDepth 100000 in
set_option maxHeartbeats 2000000 in
theorem hasPlace_any (A : Option Addr) (l : List I3) (n c : Nat) (p : Int) (w : World) (hr : Rd w A (iis l)) (hn : Hid (l.length = n)) (hm : n ≤ 9223372036854775807) (R : Bool) (hR : Hid (hasB l p = R)) :
    Calls Tryz.prog 47 #[.slice A n c, .int .i64 p] w fun e w' => e = .returned (.bool R) ∧ Keep NoB w w' := by
  by_cases h0 : 0 ≤ p
  · have q0 : decide (0 ≤ p) = true := by rw [decide_eq_true_iff]; exact h0
    by_cases h1 : p < (n : Int)
    · have q1 : decide (p < (n : Int)) = true := by rw [decide_eq_true_iff]; exact h1
      have e1 : decide (0 ≤ p ∧ p < (l.length : Int)) = true := by rw [decide_eq_true_iff, hn.out]; exact ⟨h0, h1⟩
      cases ho : okB l
      · obtain rfl : false = R := by rw [← hR.out]; unfold hasB; rw [ho]; simp
        have HC := Lib.hid (fun w hr => cchk_any A l n c w hr hn hm 50 (chkB_no ho))
        clear ho e1 h0 h1 hR
        go_enter Tryz.func47, Tryz.ntmps47
        go_wp2_with (go_at_call 17; refine (HC.out _ hr).mono ?_; rintro e w1 ⟨rfl, k1⟩)
        go_ret
        exact ⟨rfl, k1⟩
      · obtain rfl : true = R := by rw [← hR.out]; unfold hasB; rw [ho, e1]; rfl
        have HC := Lib.hid (fun w hr => cchk_any A l n c w hr hn hm 0 (chkB_ok ho))
        clear ho e1 h0 h1 hR
        go_enter Tryz.func47, Tryz.ntmps47
        go_wp2_with (go_at_call 17; refine (HC.out _ hr).mono ?_; rintro e w1 ⟨rfl, k1⟩)
        go_ret
        exact ⟨rfl, k1⟩
    · have q1 : decide (p < (n : Int)) = false := by rw [decide_eq_false_iff_not]; exact h1
      obtain rfl : false = R := by
        rw [← hR.out]; unfold hasB
        rw [decide_eq_false (by rw [hn.out]; omega)]; rfl
      clear h0 h1 hR
      go_enter Tryz.func47, Tryz.ntmps47
      go_wp2
      go_ret
      exact ⟨rfl, Keep.refl _ _⟩
  · have q0 : decide (0 ≤ p) = false := by rw [decide_eq_false_iff_not]; exact h0
    obtain rfl : false = R := by
      rw [← hR.out]; unfold hasB
      rw [decide_eq_false (by omega)]; rfl
    clear h0 hR
    go_enter Tryz.func47, Tryz.ntmps47
    go_wp2
    go_ret
    exact ⟨rfl, Keep.refl _ _⟩

end Go.Proofs.YtonpplpfipfnfaaGreatDoor.C

namespace Go.Proofs.YtonpplpfipfnfaaGreatDoor.O
open Go.RowKit

theorem pr_ii {a b a' b' : Int} (h1 : a = a') (h2 : b = b') : Ending.returned (.tuple #[.int .i64 a, .int .i64 b]) = .returned (.tuple #[.int .i64 a', .int .i64 b']) := by rw [h1, h2]

set_option maxRecDepth 100000 in
set_option maxHeartbeats 4000000 in
theorem rkinds_any (op : Int) (w : World) :
    Calls Tryz.prog 62 #[.int .i64 op] w fun e w' => e = .returned (.tuple #[.int .i64 (rowAt op).ka, .int .i64 (rowAt op).kb]) ∧ w = w' := by
  cases ho : isOp op
  · have hn := isOp_no ho
    rw [rowAt_no ho]
    have h : ∀ k : Int, 0 ≤ k → k < 30 → (op == k) = false := fun k h0 h1 => by rw [beq_eq_false_iff_ne]; intro e; exact hn ⟨by omega, by omega⟩
    have a1 := h 1 (by decide) (by decide); have a2 := h 2 (by decide) (by decide); have a3 := h 3 (by decide) (by decide); have a4 := h 4 (by decide) (by decide)
    have a5 := h 5 (by decide) (by decide); have a8 := h 8 (by decide) (by decide); have a9 := h 9 (by decide) (by decide); have a10 := h 10 (by decide) (by decide)
    have a11 := h 11 (by decide) (by decide); have a15 := h 15 (by decide) (by decide); have a16 := h 16 (by decide) (by decide); have a17 := h 17 (by decide) (by decide)
    have a18 := h 18 (by decide) (by decide); have a19 := h 19 (by decide) (by decide); have a20 := h 20 (by decide) (by decide); have a21 := h 21 (by decide) (by decide)
    have a22 := h 22 (by decide) (by decide); have a23 := h 23 (by decide) (by decide)
    clear h hn ho
    go_enter Tryz.func62, Tryz.ntmps62
    go_wp2
    go_ret2
    exact ⟨pr_ii rfl rfl, rfl⟩
  · have hb := isOp_yes ho
    clear ho
    have hc : op = 0 ∨ op = 1 ∨ op = 2 ∨ op = 3 ∨ op = 4 ∨ op = 5 ∨ op = 6 ∨ op = 7 ∨ op = 8 ∨ op = 9 ∨ op = 10 ∨ op = 11 ∨ op = 12 ∨ op = 13 ∨ op = 14 ∨ op = 15 ∨ op = 16 ∨ op = 17 ∨ op = 18 ∨ op = 19 ∨ op = 20 ∨ op = 21 ∨ op = 22 ∨ op = 23 ∨ op = 24 ∨ op = 25 ∨ op = 26 ∨ op = 27 ∨ op = 28 ∨ op = 29 := by omega
    clear hb
    rcases hc with rfl | rfl | rfl | rfl | rfl | rfl | rfl | rfl | rfl | rfl | rfl | rfl | rfl | rfl | rfl | rfl | rfl | rfl | rfl | rfl | rfl | rfl | rfl | rfl | rfl | rfl | rfl | rfl | rfl | rfl
    all_goals
      go_enter Tryz.func62, Tryz.ntmps62
      go_wp2
      go_ret2
      exact ⟨pr_ii rfl rfl, rfl⟩

set_option maxHeartbeats 1000000 in
theorem rleast_any (k : Int) (w : World) (h0 : 0 ≤ k) (h1 : k ≤ 10) (h2 : k ≠ 1) :
    Calls Tryz.prog 93 #[.int .i64 k] w fun e w' => e = .returned (.int .i64 (lo k)) ∧ w = w' := by
  have hc : k = 0 ∨ k = 2 ∨ k = 3 ∨ k = 4 ∨ k = 5 ∨ k = 6 ∨ k = 7 ∨ k = 8 ∨ k = 9 ∨ k = 10 := by omega
  clear h0 h1 h2
  rcases hc with rfl | rfl | rfl | rfl | rfl | rfl | rfl | rfl | rfl | rfl
  all_goals
    go_enter Tryz.func93, Tryz.ntmps93
    go_wp2
    go_ret
    exact ⟨rfl, rfl⟩

set_option maxHeartbeats 1000000 in
theorem rmost_any (k : Int) (w : World) (h0 : 0 ≤ k) (h1 : k ≤ 10) (h2 : k ≠ 1) :
    Calls Tryz.prog 92 #[.int .i64 k] w fun e w' => e = .returned (.int .i64 (hi k)) ∧ Keep NoB w w' := by
  have hc : k = 0 ∨ k = 2 ∨ k = 3 ∨ k = 4 ∨ k = 5 ∨ k = 6 ∨ k = 7 ∨ k = 8 ∨ k = 9 ∨ k = 10 := by omega
  clear h0 h1 h2
  rcases hc with rfl | rfl | rfl | rfl | rfl | rfl | rfl | rfl | rfl | rfl
  all_goals
    go_enter Tryz.func92, Tryz.ntmps92
    go_wp2
    go_ret
    exact ⟨rfl, (Keep.refl NoB w).alloc _⟩

end Go.Proofs.YtonpplpfipfnfaaGreatDoor.O

namespace Go.Proofs.YtonpplpfipfnfaaGreatDoor.W
open Go.RowKit

/-- What Check answers. -/
def chk (t n : Int) : Int := if okB t n = true then 0 else 21
theorem chk_ok {t n : Int} (h : okB t n = true) : chk t n = 0 := by unfold chk; rw [if_pos h]
theorem chk_bad {t n : Int} (h : okB t n = false) : chk t n = 21 := by unfold chk; rw [if_neg (by simp [h])]

set_option maxHeartbeats 400000 in
theorem known_any (t : Int) (w : World) :
    Calls Tryz.prog 109 #[.int .i64 t] w fun e w' => e = .returned (.bool (knownB t)) ∧ w = w' := by
  by_cases h1 : 1 ≤ t
  · by_cases h2 : t < 5
    · go_enter Tryz.func109, Tryz.ntmps109
      go_wp2
      go_ret
      exact ⟨ret_bool (by simp [knownB]; omega), rfl⟩
    · go_enter Tryz.func109, Tryz.ntmps109
      go_wp2
      go_ret
      exact ⟨ret_bool (by simp [knownB]; omega), rfl⟩
  · go_enter Tryz.func109, Tryz.ntmps109
    go_wp2
    go_ret
    exact ⟨ret_bool (by simp [knownB]; omega), rfl⟩

/-! ### Zero, Nil -/

end Go.Proofs.YtonpplpfipfnfaaGreatDoor.W

namespace Go.Proofs.YtonpplpfipfnfaaGreatDoor.W
open Go.RowKit

/-! ### great -/

end Go.Proofs.YtonpplpfipfnfaaGreatDoor.W

namespace Go.Proofs.YtonpplpfipfnfaaGreatDoor.W
open Go.RowKit

set_option maxRecDepth 100000 in
set_option maxHeartbeats 2000000 in
theorem ints_any (A B : Option Addr) (la lb : List Int) (n m c d : Nat) (w : World) (ha : Rd w A (ivs la)) (hb : Rd w B (ivs lb)) (hn : Hid (la.length = n)) (hm : Hid (lb.length = m))
    (h1 : n ≤ 9223372036854775807) (h2 : m ≤ 9223372036854775807) (R : Bool) (hR : Hid (R = decide (la = lb))) :
    Calls Tryz.prog 22 #[.slice A n c, .slice B m d] w fun e w' => e = .returned (.bool R) ∧ Keep NoB w w' := by
  by_cases hnm : n = m
  · subst hnm
    go_enter Tryz.func22, Tryz.ntmps22
    go_wp2
    go_loopw [5] (fun i wr => ∃ k : Nat, k ≤ n ∧ i = .int .i64 k ∧ Hid (la.take k = lb.take k) ∧ Keep NoB w wr) (fun i _ => n - (intOf i).toNat)
    case atStart => exact ⟨0, Nat.zero_le _, rfl, rfl, Keep.refl _ _⟩
    case round =>
      obtain ⟨k, hk, rfl, ht, hK⟩ := hrel
      by_cases hlt : k < n
      · have hka : k < la.length := by rw [hn.out]; exact hlt
        have hkb : k < lb.length := by rw [hm.out]; exact hlt
        obtain ⟨ga, oa, rfl, hca⟩ := rdI_at ha (by omega)
        obtain ⟨gb, ob, rfl, hcb⟩ := rdI_at hb (by omega)
        have ca := hK.cell (hca k hka) id
        have cb := hK.cell (hcb k hkb) id
        have HT := Lib.hid (show la.take (k + 1) = la.take k ++ [la[k]] from List.take_succ_eq_append_getElem hka)
        have HU := Lib.hid (show lb.take (k + 1) = lb.take k ++ [lb[k]] from List.take_succ_eq_append_getElem hkb)
        clear hca hcb
        by_cases he : la[k] = lb[k]
        · have HV : Hid (la.take (k + 1) = lb.take (k + 1)) := by show _ = _; rw [HT.out, HU.out, ht.out, he]
          rw [he] at ca
          clear he HT HU ha hb
          generalize lb[k] = y at ca cb
          go_wp2
          go_quiet (fail)
          go_wp2
          go_roundw
          case rel => exact ⟨k + 1, by omega, by go_num, HV, hK.drewN _⟩
          case measure => simp [intOf]; omega
        · have hf : R = false := by
            rw [hR.out, decide_eq_false_iff_not]
            intro e
            exact he (by simp [e])
          subst hf
          clear HT HU ha hb
          generalize la[k] = x at ca he
          generalize lb[k] = y at cb he
          have hne : (x != y) = true := by rw [bne_iff_ne]; exact he
          clear he
          go_wp2
          go_quiet (fail)
          go_wp2
          go_ret
          exact ⟨rfl, hK.drewN _⟩
      · have hf : R = true := by
          rw [hR.out, decide_eq_true_iff]
          have e1 := ht.out
          rwa [List.take_of_length_le (by rw [hn.out]; omega), List.take_of_length_le (by rw [hm.out]; omega)] at e1
        subst hf
        go_wp2
        go_ret
        exact ⟨rfl, hK⟩
  · have hf : R = false := by
      rw [hR.out, decide_eq_false_iff_not]
      intro e
      exact hnm (by rw [← hn.out, ← hm.out, e])
    subst hf
    have hne : ((n : Int) != (m : Int)) = true := by rw [bne_iff_ne]; omega
    clear hnm
    go_enter Tryz.func22, Tryz.ntmps22
    go_wp2
    go_ret
    exact ⟨rfl, Keep.refl _ _⟩

end Go.Proofs.YtonpplpfipfnfaaGreatDoor.W

namespace Go.Proofs.YtonpplpfipfnfaaGreatDoor.W
open Go.RowKit

theorem rd_new (w : World) (E : TypeId) (cs : Array Value) : Rd (w.alloc (.cells cs E)) (some ⟨w.heap.size, 0, none⟩) cs.toList := fun _ =>
  ⟨_, _, rfl, fun j u hu => by rw [Nat.zero_add, (Blk.new w E cs).cell j]; simpa using hu⟩

theorem own_after {w W W' : World} {E size n : Nat} {v v' : Value} {xs : List Value} (ho : ∀ g, v.ownBlock = some g → Fresh w g) (hK : Keep NoB w W) (hg : W.grownBy W' v.ownBlock)
    (hv : v'.ownBlock = v.ownBlock ∨ v'.ownBlock = some W.heap.size) (hrow : W'.ownsRow 0 E size v' n xs) : Own W' E size (Fresh w) v' n xs ∧ Keep NoB w W' := by
  refine ⟨⟨hrow, fun g e => ?_⟩, hK.grown hg (fun g e h => by have := ho g e; unfold Fresh at this; omega)⟩
  rcases hv with h | h
  · exact ho g (h ▸ e)
  · rw [h] at e; cases e; exact hK.size

theorem rd_made {w : World} {E : TypeId} {cs : Array Value} {b : Nat} {xs : List Value} (hb : b = w.heap.size) (hx : xs = cs.toList) : Rd (w.alloc (.cells cs E)) (some ⟨b, 0, none⟩) xs := by
  subst hb hx; exact rd_new w E cs

/-- The zeros of types. -/
def zs (l : List Int) : List (Int × Int) := l.map fun t => (t, 0)

/-- What Zeros answers, in one form. -/
def zN (l : List Int) (n : Nat) : Nat := if l.all knownB = true then n else 0
def zL (l : List Int) : List (Int × Int) := if l.all knownB = true then zs l else []
def zE (l : List Int) : Int := if l.all knownB = true then 0 else 20
theorem zL_length (l : List Int) : (zL l).length = zN l l.length := by unfold zL zN; split <;> simp [zs]
/-- The types of values. -/
def ts (x : List (Int × Int)) : List Int := x.map (·.1)

end Go.Proofs.YtonpplpfipfnfaaGreatDoor.W

namespace Go.Proofs.YtonpplpfipfnfaaGreatDoor.W
open Go.RowKit

/-- May all of the values be, and have they just these types? -/
def allOk (x : List (Int × Int)) : Bool := x.all fun v => okB v.1 v.2
def fitsB (l : List Int) (x : List (Int × Int)) : Bool := decide (l = ts x) && allOk x
theorem fits_true (l : List Int) (x : List (Int × Int)) : fitsB l x = true ↔ l = ts x ∧ allOk x = true := by unfold fitsB; simp
theorem fits_false (l : List Int) (x : List (Int × Int)) (h : ¬ (l = ts x ∧ allOk x = true)) : fitsB l x = false := by
  cases hf : fitsB l x
  · rfl
  · exact absurd ((fits_true l x).1 hf) h

end Go.Proofs.YtonpplpfipfnfaaGreatDoor.W

namespace Go.Proofs.YtonpplpfipfnfaaGreatDoor.W
open Go.RowKit

theorem gLet : Tryz.prog.globalNamed "backstay/value.letters" = some 0 := by kernel_rfl
theorem gPow : Tryz.prog.globalNamed "internal/strconv.uint64pow10" = some 4 := by kernel_rfl
theorem gSyn : Tryz.prog.globalNamed "strconv.ErrSyntax" = some 5 := by kernel_rfl
theorem gRng : Tryz.prog.globalNamed "strconv.ErrRange" = some 6 := by kernel_rfl

theorem var_keep {n : String} {g : Nat} {cs : Array Value} {w w' : World} (hg : Tryz.prog.globalNamed n = some g) (h : w.var? Tryz.prog n = some cs) (hk : Keep NoB w w') : w'.var? Tryz.prog n = some cs :=
  Go.Joins.var_stays hg h hk.toBelow (Nat.le_refl _)

def letV : Array Value := #[.int .i32 0, .int .i32 73, .int .i32 82, .int .i32 70, .int .i32 80]
def sigV : Array Value := #[.string ⟨#[]⟩, .string ⟨#[]⟩, .string ⟨#[35]⟩, .string ⟨#[64]⟩, .string ⟨#[38]⟩]

/-- The letters stand. -/
def LetAt (w : World) : Prop := w.var? Tryz.prog "backstay/value.letters" = some letV
theorem LetAt.keep {w w' : World} (h : LetAt w) (hk : Keep NoB w w') : LetAt w' := var_keep gLet h hk
theorem LetAt.cell {w : World} (h : LetAt w) (i : Nat) : w.cell? ⟨0, i, none⟩ = letV[i]? := World.var?_cell gLet h i

/-- What the texts of values are made with stands. -/
structure Laid (w : World) : Prop where
  pow : Lib.TabIs Tryz.prog w "internal/strconv.uint64pow10" .u64 Lib.pow10Tab
  syn : ∃ tp p, w.var? Tryz.prog "strconv.ErrSyntax" = some #[.iface tp p]
  rng : ∃ tp p, w.var? Tryz.prog "strconv.ErrRange" = some #[.iface tp p]
theorem Laid.keep {w w' : World} (h : Laid w) (hk : Keep NoB w w') : Laid w' :=
  ⟨var_keep gPow h.pow hk, h.syn.imp fun _ ⟨p, hp⟩ => ⟨p, var_keep gSyn hp hk⟩, h.rng.imp fun _ ⟨p, hp⟩ => ⟨p, var_keep gRng hp hk⟩⟩
set_option maxRecDepth 100000 in
set_option maxHeartbeats 1000000 in
theorem letter_any (t : Int) (w : World) (h : LetAt w) :
    Calls Tryz.prog 84 #[.int .i64 t] w fun e w' => e = .returned (.string (str (letC t))) ∧ w = w' := by
  cases hk : knownB t
  · have HL := Lib.hid (letC_none hk)
    go_enter Tryz.func84, Tryz.ntmps84
    go_wp2_with (go_at_call 109; refine (known_any _ _).mono ?_; rintro e w' ⟨rfl, rfl⟩)
    go_ret
    exact ⟨by rw [HL.out]; rfl, rfl⟩
  · rcases known_cases hk with rfl | rfl | rfl | rfl
    · have c : w.cell? ⟨0, 1, none⟩ = some (.int .i32 73) := h.cell 1
      go_enter Tryz.func84, Tryz.ntmps84
      go_wp2_with (go_at_call 109; refine (known_any _ _).mono ?_; rintro e w' ⟨rfl, rfl⟩)
      go_ret
      exact ⟨rfl, rfl⟩
    · have c : w.cell? ⟨0, 2, none⟩ = some (.int .i32 82) := h.cell 2
      go_enter Tryz.func84, Tryz.ntmps84
      go_wp2_with (go_at_call 109; refine (known_any _ _).mono ?_; rintro e w' ⟨rfl, rfl⟩)
      go_ret
      exact ⟨rfl, rfl⟩
    · have c : w.cell? ⟨0, 3, none⟩ = some (.int .i32 70) := h.cell 3
      go_enter Tryz.func84, Tryz.ntmps84
      go_wp2_with (go_at_call 109; refine (known_any _ _).mono ?_; rintro e w' ⟨rfl, rfl⟩)
      go_ret
      exact ⟨rfl, rfl⟩
    · have c : w.cell? ⟨0, 4, none⟩ = some (.int .i32 80) := h.cell 4
      go_enter Tryz.func84, Tryz.ntmps84
      go_wp2_with (go_at_call 109; refine (known_any _ _).mono ?_; rintro e w' ⟨rfl, rfl⟩)
      go_ret
      exact ⟨rfl, rfl⟩

end Go.Proofs.YtonpplpfipfnfaaGreatDoor.W

namespace Go.Proofs.YtonpplpfipfnfaaGreatDoor.W
open Go.RowKit

theorem str_app (a b : List UInt8) : str a ++ str b = str (a ++ b) := by
  apply ByteArray.ext
  simp [ByteArray.data_append]

theorem format_any (n : Int) (w : World) (h0 : -9223372036854775808 ≤ n) (h1 : n ≤ 9223372036854775807) (h : Laid w) :
    Calls Tryz.prog 104 #[.int .i64 n, .int .i64 10] w fun e w' => ∃ d, e = .returned (.string d) ∧ d.size ≤ 21 ∧ Hid (d = str (Lib.itoa n)) ∧ Keep NoB w w' := by
  refine (Tryz.strconv_FormatInt_10 n h0 h1 w h.pow).mono ?_
  rintro e w' ⟨rfl, k, os, rfl⟩
  exact ⟨_, rfl, by have := Lib.itoa_length_le n h0 h1; rw [size_of (s := Lib.itoa n) (by simp)]; exact this, rfl, Keep.of_below (Go.Lib.below_grow _ w (Nat.le_refl _) k os)⟩

theorem sgn_len (t : Int) : (sgn t).length ≤ 1 := by unfold sgn; split <;> (try split) <;> (try split) <;> simp

end Go.Proofs.YtonpplpfipfnfaaGreatDoor.W

namespace Go.Proofs.YtonpplpfipfnfaaGreatDoor.A
open Go.ChangeShapes Go.WideShapes Go.ChangeAt Go.RowKit

/-- Texts as a datum. -/
def strD (l : List (List UInt8)) : DataW Unit := .agg (l.map fun s => .lit (.string s))

theorem strs_of_head {P : Program} {W : World} {name : String} {l : List (List UInt8)} {rest : List (String × DataW Unit)} {g : Nat} {t e : TypeId} {n : Nat}
    (hg : P.globalNamed name = some g) (hty : (P.globals[g]?).map (·.type) = some t) (ht : P.underlying t = some (.array n e)) (he : P.underlying e = some .string) (hce : P.cellsOf e = 1) (hct : P.cellsOf t = n)
    (h : laidMet P ((name, strD l) :: rest) W) : W.var? P name = some (svs l).toArray := by
  obtain ⟨ps, ⟨g', t', cs, fuel, p, q, hg', ht', hvar, hd, _, _⟩, _⟩ := h
  obtain rfl := Option.some.inj (hg.symm.trans hg')
  obtain rfl := Option.some.inj (hty.symm.trans ht')
  obtain ⟨xs, m, _, ex, hlen, hl, hel⟩ := DataW.trod_array ht hd
  rw [hct] at hlen
  rw [hce] at hel
  have e3 : l.map (fun s => (DataW.lit (.string s) : DataW Unit)) = xs.map (·.1) := DataW.agg.inj (Prod.mk.inj ex).1
  have hll : l.length = n := by have := congrArg List.length e3; simpa [hl] using this
  have key : cs.toList = svs l := by
    refine List.ext_getElem (by simp [hlen, hll]) fun i h1 h2 => ?_
    have hin : i < n := by rw [← hlen]; exact h1
    have k := hel i hin
    have hix : i < xs.length := by rw [hl]; exact hin
    rw [List.getElem?_eq_getElem hix, Nat.mul_one, List.drop_eq_getElem_cons h1] at k
    obtain ⟨z, a0, b0, _⟩ := DataW.trod_string he k
    have a1 : cs.toList[i] = .string z := by simpa using a0
    have hil : i < l.length := by rw [hll]; exact hin
    have b1 : (DataW.lit (.string l[i]) : DataW Unit) = (xs[i]).1 := by
      have := congrArg (fun y => y[i]?) e3
      simpa [hil, hix] using this
    rw [b0] at b1
    simp only [DataW.lit.injEq, Lit.string.injEq] at b1
    rw [a1, List.getElem_map, b1]
  rw [hvar]
  have : cs = (svs l).toArray := by rw [← key]
  rw [this]

theorem strs_cell {P : Program} {W : World} {name : String} {l : List (List UInt8)} {g : Nat} (hg : P.globalNamed name = some g) (h : W.var? P name = some (svs l).toArray) (i : Nat) (hi : i < l.length) :
    W.cell? ⟨g, i, none⟩ = some (.string (str l[i])) := by
  have := World.var?_cell hg h i
  simpa [hi] using this

end Go.Proofs.YtonpplpfipfnfaaGreatDoor.A

namespace Go.Proofs.YtonpplpfipfnfaaGreatDoor.A
open Go.RowKit

theorem gBin : Tryz.prog.globalNamed "backstay/alu.binNames" = some 1 := by kernel_rfl
theorem gUn : Tryz.prog.globalNamed "backstay/alu.unNames" = some 2 := by kernel_rfl
theorem var_keepA {n : String} {g : Nat} {cs : Array Value} {w w' : World} (hg : Tryz.prog.globalNamed n = some g) (h : w.var? Tryz.prog n = some cs) (hk : Keep NoB w w') : w'.var? Tryz.prog n = some cs :=
  Go.Joins.var_stays hg h hk.toBelow (Nat.le_refl _)

/-- The names stand. -/
structure NamesAt (w : World) : Prop where
  bin : w.var? Tryz.prog "backstay/alu.binNames" = some (svs binNs).toArray
  un : w.var? Tryz.prog "backstay/alu.unNames" = some (svs unNs).toArray
theorem NamesAt.keep (w w' : World) (h : NamesAt w) (hk : Keep NoB w w') : NamesAt w' := ⟨var_keepA gBin h.bin hk, var_keepA gUn h.un hk⟩

/-- What a function of names answers, in the same world. -/
def NmS (f : FuncId) (l : List (List UInt8)) : Prop := ∀ (n : Int) (W : World), NamesAt W → -9223372036854775808 ≤ n ∧ n ≤ 9223372036854775807 →
  Calls Tryz.prog f #[.int .i64 n] W fun e w' => e = .returned (.string (str (nameAt l n))) ∧ W = w'
theorem NmS.nmC {f : FuncId} {l : List (List UInt8)} (h : NmS f l) : NmC NamesAt f l := fun n W hW hn => (h n W hW hn).mono fun e w' ⟨he, hw⟩ => ⟨he, by rw [← hw]; exact Keep.refl _ _⟩

set_option maxHeartbeats 4000000 in
theorem binName_any : NmS 86 binNs := fun n w h _ => by
  by_cases hi : 0 ≤ n ∧ n < 14
  · obtain ⟨k, rfl⟩ := Int.eq_ofNat_of_zero_le hi.1
    have hkl : k < binNs.length := by have : binNs.length = 14 := rfl; omega
    have hck := strs_cell gBin h.bin k hkl
    have HD : Hid (nameAt binNs (k : Int) = binNs[k]) := Lib.hid (by unfold nameAt; rw [if_pos hi.1, Int.toNat_natCast, getD_at hkl])
    generalize binNs[k] = x at hck HD
    clear h hkl
    go_enter Tryz.func86, Tryz.ntmps86
    go_wp2
    go_ret
    exact ⟨by rw [HD.out]; rfl, rfl⟩
  · have HD : Hid (nameAt binNs n = []) := Lib.hid (by
      unfold nameAt
      split
      · have : binNs.length ≤ n.toNat := by have : binNs.length = 14 := rfl; omega
        exact getD_past this
      · rfl)
    by_cases h0 : n < 0
    · go_enter Tryz.func86, Tryz.ntmps86
      go_wp2
      go_ret
      exact ⟨by rw [HD.out]; rfl, rfl⟩
    · have h2 : (14 : Int) ≤ n := by omega
      have h0' : decide (n < 0) = false := by simpa using h0
      go_enter Tryz.func86, Tryz.ntmps86
      go_wp2
      go_ret
      exact ⟨by rw [HD.out]; rfl, rfl⟩

set_option maxHeartbeats 4000000 in
theorem unName_any : NmS 88 unNs := fun n w h _ => by
  by_cases hi : 0 ≤ n ∧ n < 9
  · obtain ⟨k, rfl⟩ := Int.eq_ofNat_of_zero_le hi.1
    have hkl : k < unNs.length := by have : unNs.length = 9 := rfl; omega
    have hck := strs_cell gUn h.un k hkl
    have HD : Hid (nameAt unNs (k : Int) = unNs[k]) := Lib.hid (by unfold nameAt; rw [if_pos hi.1, Int.toNat_natCast, getD_at hkl])
    generalize unNs[k] = x at hck HD
    clear h hkl
    go_enter Tryz.func88, Tryz.ntmps88
    go_wp2
    go_ret
    exact ⟨by rw [HD.out]; rfl, rfl⟩
  · have HD : Hid (nameAt unNs n = []) := Lib.hid (by
      unfold nameAt
      split
      · have : unNs.length ≤ n.toNat := by have : unNs.length = 9 := rfl; omega
        exact getD_past this
      · rfl)
    by_cases h0 : n < 0
    · go_enter Tryz.func88, Tryz.ntmps88
      go_wp2
      go_ret
      exact ⟨by rw [HD.out]; rfl, rfl⟩
    · have h2 : (9 : Int) ≤ n := by omega
      have h0' : decide (n < 0) = false := by simpa using h0
      go_enter Tryz.func88, Tryz.ntmps88
      go_wp2
      go_ret
      exact ⟨by rw [HD.out]; rfl, rfl⟩

set_option maxHeartbeats 4000000 in
theorem named_any (f : FuncId) (hcf : ∀ (args : Array Value) (w : World), (callFunc f args).run Tryz.prog w = .ok (.enter f args) w) (l : List (List UInt8)) (n : Nat) (N : Hid (NmS f l)) (S : ByteArray) (s : List UInt8) (w : World) (h : NamesAt w)
    (hn : Hid (l.length = n)) (h1 : n ≤ 100000) (hs : Hid (S.data.toList = s)) :
    Calls Tryz.prog 111 #[.string S, .int .i64 n, .func (.func f) #[] #[]] w fun e w' => e = .returned (.tuple #[.int .i64 (ofI l s), .int .i64 (ofE l s)]) ∧ w = w' := by
  have hS : S.toList = s := by rw [ByteArray.toList_eq, hs.out]
  have HN := Lib.hid (fun n hn => N.out n w h hn)
  clear h N
  go_enter Tryz.func111, Tryz.ntmps111
  go_wp2
  go_loop [10] (fun i => ∃ k : Nat, k ≤ n ∧ i = .int .i64 (k : Int) ∧ Hid (∀ j (_ : j < k), l.getD j [] ≠ s)) (fun i => n - (intOf i).toNat)
  case atStart => exact ⟨0, Nat.zero_le _, rfl, fun j hj => by omega⟩
  case round =>
    obtain ⟨k, hk, rfl, hb⟩ := hrel
    by_cases hlt : k < n
    · have hkl : k < l.length := by rw [hn.out]; exact hlt
      have HK := Lib.hid (HN.out (k : Int) ⟨by omega, by omega⟩)
      have hD : nameAt l (k : Int) = l[k] := by unfold nameAt; rw [if_pos (by omega), Int.toNat_natCast, getD_at hkl]
      have hE : Hid (l.getD k [] = l[k]) := getD_at hkl
      rw [hD] at HK
      clear hD
      by_cases he : l[k] = s
      · have HH := Lib.hid (of_hit hkl he hb.out)
        have hq : (l[k] == S.toList) = true := by rw [hS, he]; simp
        generalize l[k] = x at HK hq
        clear he hE hS
        go_wp2_with fail
        refine HK.out.mono ?_
        rintro e w' ⟨rfl, rfl⟩
        go_wp2
        go_ret2
        exact ⟨ret2 HH.out.1.symm HH.out.2.symm, rfl⟩
      · have hq : (l[k] == S.toList) = false := by rw [hS]; simpa using he
        have HB : Hid (∀ j (_ : j < k + 1), l.getD j [] ≠ s) := fun j hj => by
          rcases Nat.lt_succ_iff_lt_or_eq.1 hj with h | rfl
          · exact hb.out j h
          · rw [hE.out]; exact he
        generalize l[k] = x at HK hq
        clear he hE hS
        go_wp2_with fail
        refine HK.out.mono ?_
        rintro e w' ⟨rfl, rfl⟩
        go_wp2
        go_round
        case rel => exact ⟨k + 1, by omega, by go_num, HB⟩
        case measure => simp [intOf]; omega
    · obtain rfl : k = n := by omega
      have HH := Lib.hid (of_miss (l := l) (s := s) (fun j hj => hb.out j (by rw [← hn.out]; exact hj)))
      clear hS
      go_wp2
      go_ret2
      exact ⟨ret2 HH.out.1.symm HH.out.2.symm, rfl⟩

theorem binOf_any : OfC NamesAt 87 binNs := fun S s w h hs _ => by
  have H := Lib.hid (fun W hW => named_any 86 Tryz.call86 binNs 14 (Lib.hid binName_any) S s W hW rfl (by omega) hs)
  go_enter Tryz.func87, Tryz.ntmps87
  go_wp2_with (go_at_call 111; refine (H.out _ h).mono ?_; rintro e w' ⟨rfl, rfl⟩)
  go_ret2
  exact ⟨rfl, Keep.refl _ _⟩
theorem unOf_any : OfC NamesAt 89 unNs := fun S s w h hs _ => by
  have H := Lib.hid (fun W hW => named_any 88 Tryz.call88 unNs 9 (Lib.hid unName_any) S s W hW rfl (by omega) hs)
  go_enter Tryz.func89, Tryz.ntmps89
  go_wp2_with (go_at_call 111; refine (H.out _ h).mono ?_; rintro e w' ⟨rfl, rfl⟩)
  go_ret2
  exact ⟨rfl, Keep.refl _ _⟩

end Go.Proofs.YtonpplpfipfnfaaGreatDoor.A

namespace Go.Proofs.YtonpplpfipfnfaaGreatDoor.O
open Go.RowKit

/-- What the texts of operands are made with stands. -/
structure LaidO (w : World) : Prop where
  lets : W.LetAt w
  names : A.NamesAt w
  lib : W.Laid w
theorem LaidO.keep {w w' : World} (h : LaidO w) (hk : Keep NoB w w') : LaidO w' := ⟨h.lets.keep hk, A.NamesAt.keep _ _ h.names hk, h.lib.keep hk⟩
def I64 (n : Int) : Prop := -9223372036854775808 ≤ n ∧ n ≤ 9223372036854775807

theorem word_dig {k n : Int} (h : digK k = true) : word k n = Lib.itoa n := by
  have h := of_decide_eq_true h
  unfold word
  rw [if_neg (by omega), if_neg (by omega), if_neg (by omega)]
theorem dig_0 {k : Int} (h : digK k = true) : k ≠ 0 := by have h := of_decide_eq_true h; omega
theorem word_0 {k : Int} (h : wordK k = true) : k ≠ 0 := by have h := of_decide_eq_true h; omega

theorem nameAt_len {l : List (List UInt8)} {m : Nat} (h : l.all (fun s => decide (s.length ≤ m)) = true) (n : Int) : (A.nameAt l n).length ≤ m := by
  unfold A.nameAt
  split
  · rcases Nat.lt_or_ge n.toNat l.length with hlt | hge
    · rw [A.getD_at hlt]
      exact of_decide_eq_true (List.all_eq_true.1 h _ (List.getElem_mem hlt))
    · rw [A.getD_past hge]; exact Nat.zero_le _
  · exact Nat.zero_le _
theorem word_len (k n : Int) (hn : I64 n) : (word k n).length ≤ 21 := by
  unfold word
  split
  · unfold W.letC
    repeat' split
    all_goals simp
  · split
    · exact Nat.le_trans (nameAt_len (m := 6) (by decide) n) (by omega)
    · split
      · exact Nat.le_trans (nameAt_len (m := 6) (by decide) n) (by omega)
      · exact Lib.itoa_length_le n hn.1 hn.2

set_option maxHeartbeats 1000000 in
theorem show_dig (k n : Int) (w : World) (hk : digK k = true) (hn : I64 n) (h : LaidO w) :
    Calls Tryz.prog 103 #[.int .i64 n] w fun e w' => ∃ d, e = .returned (.string d) ∧ Hid (d = str (word k n)) ∧ Keep NoB w w' := by
  have HW := Lib.hid (word_dig (n := n) hk)
  have HF := Lib.hid (W.format_any n w hn.1 hn.2 h.lib)
  clear h hk hn
  go_enter Tryz.func103, Tryz.ntmps103
  go_wp2_with fail
  refine HF.out.mono ?_
  rintro e w1 ⟨d, rfl, _, hd, k1⟩
  go_wp2
  go_ret
  exact ⟨d, rfl, by show _ = _; rw [hd.out, HW.out], k1⟩

set_option maxHeartbeats 1000000 in
theorem show_word (k n : Int) (b : Nat) (w : World) (hk : wordK k = true) (hn : I64 n) (h : LaidO w) (hb : w.cell? ⟨b, 0, none⟩ = some (fnV (wordF k))) :
    Calls Tryz.prog 107 #[.int .i64 n, .pointer (some ⟨b, 0, none⟩)] w fun e w' => ∃ d, e = .returned (.string d) ∧ Hid (d = str (word k n)) ∧ Keep NoB w w' := by
  have hk := of_decide_eq_true hk
  have hc : k = 8 ∨ k = 9 ∨ (k = 2 ∨ k = 3) := by omega
  clear hk
  rcases hc with rfl | rfl | hk
  · have HF := Lib.hid (A.binName_any n w h.names hn)
    have hb' : w.cell? ⟨b, 0, none⟩ = some (fnV 86) := hb
    clear h hn hb
    go_enter Tryz.func107, Tryz.ntmps107
    go_wp2_with fail
    refine HF.out.mono ?_
    rintro e w1 ⟨rfl, rfl⟩
    go_wp2
    go_ret
    exact ⟨_, rfl, rfl, Keep.refl _ _⟩
  · have HF := Lib.hid (A.unName_any n w h.names hn)
    have hb' : w.cell? ⟨b, 0, none⟩ = some (fnV 88) := hb
    clear h hn hb
    go_enter Tryz.func107, Tryz.ntmps107
    go_wp2_with fail
    refine HF.out.mono ?_
    rintro e w1 ⟨rfl, rfl⟩
    go_wp2
    go_ret
    exact ⟨_, rfl, rfl, Keep.refl _ _⟩
  · have HF := Lib.hid (W.letter_any n w h.lets)
    have hb' : w.cell? ⟨b, 0, none⟩ = some (fnV 84) := by rw [hb]; unfold wordF; rw [if_neg (by omega), if_neg (by omega)]
    have HW : Hid (word k n = W.letC n) := by show _ = _; unfold word; rw [if_pos (by omega)]
    clear h hn hb hk
    go_enter Tryz.func107, Tryz.ntmps107
    go_wp2_with fail
    refine HF.out.mono ?_
    rintro e w1 ⟨rfl, rfl⟩
    go_wp2
    go_ret
    exact ⟨_, rfl, by show _ = _; rw [HW.out], Keep.refl _ _⟩

end Go.Proofs.YtonpplpfipfnfaaGreatDoor.O
