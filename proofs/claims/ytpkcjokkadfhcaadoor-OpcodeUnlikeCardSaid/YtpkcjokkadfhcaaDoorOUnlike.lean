/-
  OpcodeUnlike's walk: two instructions that may be are the same just if their bytes are, and their texts are. Conditions: the listed package-level variables hold what their initialisers lay; numbers fit an int64.
-/
import Derived.Test.YtpkcjokkadfhcaaDoorOBoth
import Derived.Test.YtpkcjokkadfhcaaDoorOPure2
namespace Go.Proofs.YtpkcjokkadfhcaaDoor.O
open Go.RowKit

theorem str_toList (l : List UInt8) : (str l).toList = l := by rw [ByteArray.toList_eq]
theorem prefix_iff (a b : List UInt8) : Lib.hasPrefix b a = true ↔ ∃ r, b = a ++ r := by
  unfold Lib.hasPrefix
  rw [List.isPrefixOf_iff_prefix]
  exact ⟨fun ⟨r, h⟩ => ⟨r, h.symm⟩, fun ⟨r, h⟩ => ⟨r, h.symm⟩⟩
theorem bytes_gen (op a b : Int) (B : ByteArray) (w : World) (h : str (encI op a b) = B) (ha : I64 a) (hb : I64 b) :
    Calls Tryd.prog 13 #[instV op a b] w fun e w' => e = .returned (.string B) ∧ Keep NoB w w' := by subst h; exact bytes_any op a b w ha hb
theorem show_gen (op a b : Int) (B : ByteArray) (w : World) (h : str (showI op a b) = B) (ha : I64 a) (hb : I64 b) (hL : LaidO w) :
    Calls Tryd.prog 14 #[instV op a b] w fun e w' => e = .returned (.string B) ∧ Keep NoB w w' := by subst h; exact show_any op a b w ha hb hL
theorem check_gen (op a b c : Int) (w : World) (h : chk op a b = c) :
    Calls Tryd.prog 7 #[instV op a b] w fun e w' => e = .returned (.int .i64 c) ∧ Keep NoB w w' := by subst h; exact check_any op a b w
theorem prefix_gen (S T : ByteArray) (t : Bool) (w : World) (h : Lib.hasPrefix S.data.toList T.data.toList = t) :
    Calls Tryd.prog 15 #[.string S, .string T] w fun e w' => e = .returned (.bool t) ∧ Keep NoB w w' := by
  subst h
  exact (Tryd.strings_HasPrefix S T w).mono fun _ _ ⟨he, hw⟩ => ⟨he, by rw [hw]; exact Keep.refl _ _⟩

set_option maxRecDepth 100000 in
set_option maxHeartbeats 4000000 in
theorem unlike_a (op a b op' a' b' : Int) (w : World) (hL : Hid (LaidO w)) (hI : Hid ((I64 a ∧ I64 b) ∧ I64 a' ∧ I64 b')) (hx : chk op a b = 40) (S T : ByteArray) (hS : Hid (str (encI op a b) = S)) (hT : Hid (str (encI op' a' b') = T)) (hq : S.toList.isEmpty = true) :
    Calls Tryd.prog 4 #[instV op a b, instV op' a' b'] w fun e w' => e = .returned (.bool true) ∧ Keep NoB w w' := by
  have HX := Lib.hid hx
  clear hx
  have bx0 := (Blk.new w 23 #[.int .i64 op, .int .i64 a, .int .i64 b]).alloc (.cells #[.int .i64 op', .int .i64 a', .int .i64 b'] 23)
  have by0 := Blk.new (w.alloc (.cells #[.int .i64 op, .int .i64 a, .int .i64 b] 23)) 23 #[.int .i64 op', .int .i64 a', .int .i64 b']
  rw [World.size_alloc] at by0
  have gK := ((Keep.refl NoB w).alloc (.cells #[.int .i64 op, .int .i64 a, .int .i64 b] 23)).alloc (.cells #[.int .i64 op', .int .i64 a', .int .i64 b'] 23)
  go_enter Tryd.func4, Tryd.ntmps4
  go_wp2_with fail
  refine (alive_any _ (hL.out.keep gK)).mono ?_
  rintro e w1 ⟨rfl, k1⟩
  have bx := bx0.keep k1 id
  have by_ := by0.keep k1 id
  replace gK := keepN gK k1
  clear bx0 by0 k1
  go_wp2_with fail
  · skip
    refine wp_region_sh ((0, false) :: (1, false) :: (2, false) :: (3, false) :: (4, false) :: (5, false) :: []) (fun w' => Keep NoB w1 w') (by kernel_rfl) (by kernel_rfl) (by rfl) (by kernel_rfl) (stable_keep w1) (Keep.refl NoB w1).drew ?_
    refine shM_step rfl rfl rfl (by rfl) (by rfl) ?_
    apply Exists.intro
    refine ⟨fun n K hK => ?_, ?_, ?_⟩
    · have x0 : ∀ m : KW n.w, m.w.cell? ⟨w.heap.size, 0, none⟩ = some (.int .i64 op) := fun m => (bx.keep (keepN n.has m.keep) id).cell 0
      have x1 : ∀ m : KW n.w, m.w.cell? ⟨w.heap.size, 1, none⟩ = some (.int .i64 a) := fun m => (bx.keep (keepN n.has m.keep) id).cell 1
      have x2 : ∀ m : KW n.w, m.w.cell? ⟨w.heap.size, 2, none⟩ = some (.int .i64 b) := fun m => (bx.keep (keepN n.has m.keep) id).cell 2
      go_big_quiet_op
      exact hK _ rfl
    · kernel_rfl
    refine shM_step rfl rfl rfl (by rfl) (by rfl) ?_
    apply Exists.intro
    refine ⟨fun n K hK => ?_, ?_, ?_⟩
    · go_big_quiet_op
      apply Exists.intro
      refine ⟨fun m => ?_, ?_⟩
      · go_at_call 13
        exact kept_of (bytes_gen op a b S _ hS.out hI.out.1.1 hI.out.1.2)
      · exact hK _ rfl
    · kernel_rfl
    refine shM_step rfl rfl rfl (by rfl) (by rfl) ?_
    apply Exists.intro
    refine ⟨fun n K hK => ?_, ?_, ?_⟩
    · have y0 : ∀ m : KW n.w, m.w.cell? ⟨w.heap.size + 1, 0, none⟩ = some (.int .i64 op') := fun m => (by_.keep (keepN n.has m.keep) id).cell 0
      have y1 : ∀ m : KW n.w, m.w.cell? ⟨w.heap.size + 1, 1, none⟩ = some (.int .i64 a') := fun m => (by_.keep (keepN n.has m.keep) id).cell 1
      have y2 : ∀ m : KW n.w, m.w.cell? ⟨w.heap.size + 1, 2, none⟩ = some (.int .i64 b') := fun m => (by_.keep (keepN n.has m.keep) id).cell 2
      go_big_quiet_op
      exact hK _ rfl
    · kernel_rfl
    refine shM_step rfl rfl rfl (by rfl) (by rfl) ?_
    apply Exists.intro
    refine ⟨fun n K hK => ?_, ?_, ?_⟩
    · go_big_quiet_op
      apply Exists.intro
      refine ⟨fun m => ?_, ?_⟩
      · go_at_call 13
        exact kept_of (bytes_gen op' a' b' T _ hT.out hI.out.2.1 hI.out.2.2)
      · exact hK _ rfl
    · kernel_rfl
    refine shM_step rfl rfl rfl (by rfl) (by rfl) ?_
    apply Exists.intro
    refine ⟨fun n K hK => ?_, ?_, ?_⟩
    · go_big_quiet_op
      exact hK _ rfl
    · kernel_rfl
    refine shM_step rfl rfl rfl (by rfl) (by rfl) ?_
    apply Exists.intro
    refine ⟨fun n K hK => ?_, ?_, ?_⟩
    · go_big_quiet_op
      exact hK _ rfl
    · kernel_rfl
    refine shM_nil (fun n => ?_)
    have k2 := n.has
    generalize n.w = w2 at k2 ⊢
    have bx2 := bx.keep k2 id
    have by2 := by_.keep k2 id
    replace gK := keepN gK k2
    have x0 : w2.cell? ⟨w.heap.size, 0, none⟩ = some (.int .i64 op) := bx2.cell 0
    have x1 : w2.cell? ⟨w.heap.size, 1, none⟩ = some (.int .i64 a) := bx2.cell 1
    have x2 : w2.cell? ⟨w.heap.size, 2, none⟩ = some (.int .i64 b) := bx2.cell 2
    clear k2 bx by_
    go_wp2_with fail
    refine (check_gen op a b 40 _ HX.out).mono ?_
    rintro e w3 ⟨rfl, k3⟩
    have bx := bx2.keep k3 id
    have by_ := by2.keep k3 id
    replace gK := keepN gK k3
    clear k3 bx2 by2 x0 x1 x2
    have z0 : w3.cell? ⟨w.heap.size, 0, none⟩ = some (.int .i64 op) := bx.cell 0
    have z1 : w3.cell? ⟨w.heap.size, 1, none⟩ = some (.int .i64 a) := bx.cell 1
    have z2 : w3.cell? ⟨w.heap.size, 2, none⟩ = some (.int .i64 b) := bx.cell 2
    go_wp2_with fail
    refine (check_gen op a b 40 _ HX.out).mono ?_
    rintro e w5 ⟨rfl, k5⟩
    go_wp2
    go_ret
    exact ⟨rfl, keepN gK k5⟩

set_option maxRecDepth 100000 in
set_option maxHeartbeats 4000000 in
theorem unlike_b (op a b op' a' b' : Int) (w : World) (hL : Hid (LaidO w)) (hI : Hid ((I64 a ∧ I64 b) ∧ I64 a' ∧ I64 b')) (hx : chk op a b = 0) (hy : chk op' a' b' = 40) (S T : ByteArray) (hS : Hid (str (encI op a b) = S)) (hT : Hid (str (encI op' a' b') = T)) (hq : S.toList.isEmpty = false) :
    Calls Tryd.prog 4 #[instV op a b, instV op' a' b'] w fun e w' => e = .returned (.bool true) ∧ Keep NoB w w' := by
  have HX := Lib.hid hx
  have HY := Lib.hid hy
  clear hx hy
  have bx0 := (Blk.new w 23 #[.int .i64 op, .int .i64 a, .int .i64 b]).alloc (.cells #[.int .i64 op', .int .i64 a', .int .i64 b'] 23)
  have by0 := Blk.new (w.alloc (.cells #[.int .i64 op, .int .i64 a, .int .i64 b] 23)) 23 #[.int .i64 op', .int .i64 a', .int .i64 b']
  rw [World.size_alloc] at by0
  have gK := ((Keep.refl NoB w).alloc (.cells #[.int .i64 op, .int .i64 a, .int .i64 b] 23)).alloc (.cells #[.int .i64 op', .int .i64 a', .int .i64 b'] 23)
  go_enter Tryd.func4, Tryd.ntmps4
  go_wp2_with fail
  refine (alive_any _ (hL.out.keep gK)).mono ?_
  rintro e w1 ⟨rfl, k1⟩
  have bx := bx0.keep k1 id
  have by_ := by0.keep k1 id
  replace gK := keepN gK k1
  clear bx0 by0 k1
  go_wp2_with fail
  · skip
    refine wp_region_sh ((0, false) :: (1, false) :: (2, false) :: (3, false) :: (4, false) :: (5, false) :: []) (fun w' => Keep NoB w1 w') (by kernel_rfl) (by kernel_rfl) (by rfl) (by kernel_rfl) (stable_keep w1) (Keep.refl NoB w1).drew ?_
    refine shM_step rfl rfl rfl (by rfl) (by rfl) ?_
    apply Exists.intro
    refine ⟨fun n K hK => ?_, ?_, ?_⟩
    · have x0 : ∀ m : KW n.w, m.w.cell? ⟨w.heap.size, 0, none⟩ = some (.int .i64 op) := fun m => (bx.keep (keepN n.has m.keep) id).cell 0
      have x1 : ∀ m : KW n.w, m.w.cell? ⟨w.heap.size, 1, none⟩ = some (.int .i64 a) := fun m => (bx.keep (keepN n.has m.keep) id).cell 1
      have x2 : ∀ m : KW n.w, m.w.cell? ⟨w.heap.size, 2, none⟩ = some (.int .i64 b) := fun m => (bx.keep (keepN n.has m.keep) id).cell 2
      go_big_quiet_op
      exact hK _ rfl
    · kernel_rfl
    refine shM_step rfl rfl rfl (by rfl) (by rfl) ?_
    apply Exists.intro
    refine ⟨fun n K hK => ?_, ?_, ?_⟩
    · go_big_quiet_op
      apply Exists.intro
      refine ⟨fun m => ?_, ?_⟩
      · go_at_call 13
        exact kept_of (bytes_gen op a b S _ hS.out hI.out.1.1 hI.out.1.2)
      · exact hK _ rfl
    · kernel_rfl
    refine shM_step rfl rfl rfl (by rfl) (by rfl) ?_
    apply Exists.intro
    refine ⟨fun n K hK => ?_, ?_, ?_⟩
    · have y0 : ∀ m : KW n.w, m.w.cell? ⟨w.heap.size + 1, 0, none⟩ = some (.int .i64 op') := fun m => (by_.keep (keepN n.has m.keep) id).cell 0
      have y1 : ∀ m : KW n.w, m.w.cell? ⟨w.heap.size + 1, 1, none⟩ = some (.int .i64 a') := fun m => (by_.keep (keepN n.has m.keep) id).cell 1
      have y2 : ∀ m : KW n.w, m.w.cell? ⟨w.heap.size + 1, 2, none⟩ = some (.int .i64 b') := fun m => (by_.keep (keepN n.has m.keep) id).cell 2
      go_big_quiet_op
      exact hK _ rfl
    · kernel_rfl
    refine shM_step rfl rfl rfl (by rfl) (by rfl) ?_
    apply Exists.intro
    refine ⟨fun n K hK => ?_, ?_, ?_⟩
    · go_big_quiet_op
      apply Exists.intro
      refine ⟨fun m => ?_, ?_⟩
      · go_at_call 13
        exact kept_of (bytes_gen op' a' b' T _ hT.out hI.out.2.1 hI.out.2.2)
      · exact hK _ rfl
    · kernel_rfl
    refine shM_step rfl rfl rfl (by rfl) (by rfl) ?_
    apply Exists.intro
    refine ⟨fun n K hK => ?_, ?_, ?_⟩
    · go_big_quiet_op
      exact hK _ rfl
    · kernel_rfl
    refine shM_step rfl rfl rfl (by rfl) (by rfl) ?_
    apply Exists.intro
    refine ⟨fun n K hK => ?_, ?_, ?_⟩
    · go_big_quiet_op
      exact hK _ rfl
    · kernel_rfl
    refine shM_nil (fun n => ?_)
    have k2 := n.has
    generalize n.w = w2 at k2 ⊢
    have bx2 := bx.keep k2 id
    have by2 := by_.keep k2 id
    replace gK := keepN gK k2
    have x0 : w2.cell? ⟨w.heap.size, 0, none⟩ = some (.int .i64 op) := bx2.cell 0
    have x1 : w2.cell? ⟨w.heap.size, 1, none⟩ = some (.int .i64 a) := bx2.cell 1
    have x2 : w2.cell? ⟨w.heap.size, 2, none⟩ = some (.int .i64 b) := bx2.cell 2
    clear k2 bx by_
    go_wp2_with fail
    refine (check_gen op a b 0 _ HX.out).mono ?_
    rintro e w3 ⟨rfl, k3⟩
    have bx := bx2.keep k3 id
    have by_ := by2.keep k3 id
    replace gK := keepN gK k3
    clear k3 bx2 by2 x0 x1 x2
    have y0 : w3.cell? ⟨w.heap.size + 1, 0, none⟩ = some (.int .i64 op') := by_.cell 0
    have y1 : w3.cell? ⟨w.heap.size + 1, 1, none⟩ = some (.int .i64 a') := by_.cell 1
    have y2 : w3.cell? ⟨w.heap.size + 1, 2, none⟩ = some (.int .i64 b') := by_.cell 2
    go_wp2_with fail
    refine (check_gen op' a' b' 40 _ HY.out).mono ?_
    rintro e w4 ⟨rfl, k4⟩
    have bx4 := bx.keep k4 id
    have by4 := by_.keep k4 id
    replace gK := keepN gK k4
    clear k4 bx by_ y0 y1 y2
    have z0 : w4.cell? ⟨w.heap.size, 0, none⟩ = some (.int .i64 op) := bx4.cell 0
    have z1 : w4.cell? ⟨w.heap.size, 1, none⟩ = some (.int .i64 a) := bx4.cell 1
    have z2 : w4.cell? ⟨w.heap.size, 2, none⟩ = some (.int .i64 b) := bx4.cell 2
    go_wp2_with fail
    refine (check_gen op a b 0 _ HX.out).mono ?_
    rintro e w5 ⟨rfl, k5⟩
    go_wp2
    go_ret
    exact ⟨rfl, keepN gK k5⟩

set_option maxRecDepth 100000 in
set_option maxHeartbeats 4000000 in
theorem unlike_c (op a b op' a' b' : Int) (w : World) (hL : Hid (LaidO w)) (hI : Hid ((I64 a ∧ I64 b) ∧ I64 a' ∧ I64 b')) (hx : chk op a b = 0) (hy : chk op' a' b' = 0) (S T : ByteArray) (hS : Hid (str (encI op a b) = S)) (hT : Hid (str (encI op' a' b') = T)) (U V : ByteArray) (hU : Hid (str (showI op a b) = U)) (hV : Hid (str (showI op' a' b') = V)) (q1 : (S.toList == T.toList) = true) (q2 : (U.toList == V.toList) = true) (hp : Hid (Lib.hasPrefix T.data.toList S.data.toList = true)) (e0 : (op == op') = true) (e1 : (a == a') = true) (e2 : (b == b') = true) :
    Calls Tryd.prog 4 #[instV op a b, instV op' a' b'] w fun e w' => e = .returned (.bool true) ∧ Keep NoB w w' := by
  have HX := Lib.hid hx
  have HY := Lib.hid hy
  clear hx hy
  have bx0 := (Blk.new w 23 #[.int .i64 op, .int .i64 a, .int .i64 b]).alloc (.cells #[.int .i64 op', .int .i64 a', .int .i64 b'] 23)
  have by0 := Blk.new (w.alloc (.cells #[.int .i64 op, .int .i64 a, .int .i64 b] 23)) 23 #[.int .i64 op', .int .i64 a', .int .i64 b']
  rw [World.size_alloc] at by0
  have gK := ((Keep.refl NoB w).alloc (.cells #[.int .i64 op, .int .i64 a, .int .i64 b] 23)).alloc (.cells #[.int .i64 op', .int .i64 a', .int .i64 b'] 23)
  go_enter Tryd.func4, Tryd.ntmps4
  go_wp2_with fail
  refine (alive_any _ (hL.out.keep gK)).mono ?_
  rintro e w1 ⟨rfl, k1⟩
  have bx := bx0.keep k1 id
  have by_ := by0.keep k1 id
  replace gK := keepN gK k1
  clear bx0 by0 k1
  go_wp2_with fail
  · skip
    refine wp_region_sh ((0, false) :: (1, false) :: (2, false) :: (3, false) :: (4, false) :: (5, false) :: []) (fun w' => Keep NoB w1 w') (by kernel_rfl) (by kernel_rfl) (by rfl) (by kernel_rfl) (stable_keep w1) (Keep.refl NoB w1).drew ?_
    refine shM_step rfl rfl rfl (by rfl) (by rfl) ?_
    apply Exists.intro
    refine ⟨fun n K hK => ?_, ?_, ?_⟩
    · have x0 : ∀ m : KW n.w, m.w.cell? ⟨w.heap.size, 0, none⟩ = some (.int .i64 op) := fun m => (bx.keep (keepN n.has m.keep) id).cell 0
      have x1 : ∀ m : KW n.w, m.w.cell? ⟨w.heap.size, 1, none⟩ = some (.int .i64 a) := fun m => (bx.keep (keepN n.has m.keep) id).cell 1
      have x2 : ∀ m : KW n.w, m.w.cell? ⟨w.heap.size, 2, none⟩ = some (.int .i64 b) := fun m => (bx.keep (keepN n.has m.keep) id).cell 2
      go_big_quiet_op
      exact hK _ rfl
    · kernel_rfl
    refine shM_step rfl rfl rfl (by rfl) (by rfl) ?_
    apply Exists.intro
    refine ⟨fun n K hK => ?_, ?_, ?_⟩
    · go_big_quiet_op
      apply Exists.intro
      refine ⟨fun m => ?_, ?_⟩
      · go_at_call 13
        exact kept_of (bytes_gen op a b S _ hS.out hI.out.1.1 hI.out.1.2)
      · exact hK _ rfl
    · kernel_rfl
    refine shM_step rfl rfl rfl (by rfl) (by rfl) ?_
    apply Exists.intro
    refine ⟨fun n K hK => ?_, ?_, ?_⟩
    · have y0 : ∀ m : KW n.w, m.w.cell? ⟨w.heap.size + 1, 0, none⟩ = some (.int .i64 op') := fun m => (by_.keep (keepN n.has m.keep) id).cell 0
      have y1 : ∀ m : KW n.w, m.w.cell? ⟨w.heap.size + 1, 1, none⟩ = some (.int .i64 a') := fun m => (by_.keep (keepN n.has m.keep) id).cell 1
      have y2 : ∀ m : KW n.w, m.w.cell? ⟨w.heap.size + 1, 2, none⟩ = some (.int .i64 b') := fun m => (by_.keep (keepN n.has m.keep) id).cell 2
      go_big_quiet_op
      exact hK _ rfl
    · kernel_rfl
    refine shM_step rfl rfl rfl (by rfl) (by rfl) ?_
    apply Exists.intro
    refine ⟨fun n K hK => ?_, ?_, ?_⟩
    · go_big_quiet_op
      apply Exists.intro
      refine ⟨fun m => ?_, ?_⟩
      · go_at_call 13
        exact kept_of (bytes_gen op' a' b' T _ hT.out hI.out.2.1 hI.out.2.2)
      · exact hK _ rfl
    · kernel_rfl
    refine shM_step rfl rfl rfl (by rfl) (by rfl) ?_
    apply Exists.intro
    refine ⟨fun n K hK => ?_, ?_, ?_⟩
    · go_big_quiet_op
      exact hK _ rfl
    · kernel_rfl
    refine shM_step rfl rfl rfl (by rfl) (by rfl) ?_
    apply Exists.intro
    refine ⟨fun n K hK => ?_, ?_, ?_⟩
    · go_big_quiet_op
      exact hK _ rfl
    · kernel_rfl
    refine shM_nil (fun n => ?_)
    have k2 := n.has
    generalize n.w = w2 at k2 ⊢
    have bx2 := bx.keep k2 id
    have by2 := by_.keep k2 id
    replace gK := keepN gK k2
    have x0 : w2.cell? ⟨w.heap.size, 0, none⟩ = some (.int .i64 op) := bx2.cell 0
    have x1 : w2.cell? ⟨w.heap.size, 1, none⟩ = some (.int .i64 a) := bx2.cell 1
    have x2 : w2.cell? ⟨w.heap.size, 2, none⟩ = some (.int .i64 b) := bx2.cell 2
    clear k2 bx by_
    go_wp2_with fail
    refine (check_gen op a b 0 _ HX.out).mono ?_
    rintro e w3 ⟨rfl, k3⟩
    have bx := bx2.keep k3 id
    have by_ := by2.keep k3 id
    replace gK := keepN gK k3
    clear k3 bx2 by2 x0 x1 x2
    have y0 : w3.cell? ⟨w.heap.size + 1, 0, none⟩ = some (.int .i64 op') := by_.cell 0
    have y1 : w3.cell? ⟨w.heap.size + 1, 1, none⟩ = some (.int .i64 a') := by_.cell 1
    have y2 : w3.cell? ⟨w.heap.size + 1, 2, none⟩ = some (.int .i64 b') := by_.cell 2
    go_wp2_with fail
    refine (check_gen op' a' b' 0 _ HY.out).mono ?_
    rintro e w4 ⟨rfl, k4⟩
    have bx4 := bx.keep k4 id
    have by4 := by_.keep k4 id
    replace gK := keepN gK k4
    clear k4 bx by_ y0 y1 y2
    have bx := bx4
    have by_ := by4
    clear bx4 by4
    go_wp2_with fail
    refine wp_region_sh ((0, false) :: (1, false) :: (2, false) :: (3, false) :: (4, false) :: (5, false) :: (6, false) :: (7, false) :: (8, false) :: (9, false) :: (10, false) :: (11, false) :: (12, false) :: (13, false) :: (14, false) :: (15, false) :: (16, false) :: (17, false) :: (18, false) :: (19, false) :: (20, false) :: (21, false) :: (22, false) :: (23, false) :: (24, false) :: (25, false) :: (26, false) :: (27, false) :: (28, false) :: (29, false) :: (30, false) :: []) (fun w' => Keep NoB w4 w') (by kernel_rfl) (by kernel_rfl) (by rfl) (by kernel_rfl) (stable_keep w4) (Keep.refl NoB w4).drew ?_
    refine shM_step rfl rfl rfl (by rfl) (by rfl) ?_
    apply Exists.intro
    refine ⟨fun n K hK => ?_, ?_, ?_⟩
    · go_big_quiet_op
      exact hK _ rfl
    · kernel_rfl
    refine shM_step rfl rfl rfl (by rfl) (by rfl) ?_
    apply Exists.intro
    refine ⟨fun n K hK => ?_, ?_, ?_⟩
    · go_big_quiet_op
      exact hK _ rfl
    · kernel_rfl
    refine shM_step rfl rfl rfl (by rfl) (by rfl) ?_
    apply Exists.intro
    refine ⟨fun n K hK => ?_, ?_, ?_⟩
    · have x0 : ∀ m : KW n.w, m.w.cell? ⟨w.heap.size, 0, none⟩ = some (.int .i64 op) := fun m => (bx.keep (keepN n.has m.keep) id).cell 0
      have x1 : ∀ m : KW n.w, m.w.cell? ⟨w.heap.size, 1, none⟩ = some (.int .i64 a) := fun m => (bx.keep (keepN n.has m.keep) id).cell 1
      have x2 : ∀ m : KW n.w, m.w.cell? ⟨w.heap.size, 2, none⟩ = some (.int .i64 b) := fun m => (bx.keep (keepN n.has m.keep) id).cell 2
      go_big_quiet_op
      exact hK _ rfl
    · kernel_rfl
    refine shM_step rfl rfl rfl (by rfl) (by rfl) ?_
    apply Exists.intro
    refine ⟨fun n K hK => ?_, ?_, ?_⟩
    · have y0 : ∀ m : KW n.w, m.w.cell? ⟨w.heap.size + 1, 0, none⟩ = some (.int .i64 op') := fun m => (by_.keep (keepN n.has m.keep) id).cell 0
      have y1 : ∀ m : KW n.w, m.w.cell? ⟨w.heap.size + 1, 1, none⟩ = some (.int .i64 a') := fun m => (by_.keep (keepN n.has m.keep) id).cell 1
      have y2 : ∀ m : KW n.w, m.w.cell? ⟨w.heap.size + 1, 2, none⟩ = some (.int .i64 b') := fun m => (by_.keep (keepN n.has m.keep) id).cell 2
      go_big_quiet_op
      exact hK _ rfl
    · kernel_rfl
    refine shM_step rfl rfl rfl (by rfl) (by rfl) ?_
    apply Exists.intro
    refine ⟨fun n K hK => ?_, ?_, ?_⟩
    · go_big_quiet_op
      exact hK _ rfl
    · kernel_rfl
    refine shM_step rfl rfl rfl (by rfl) (by rfl) ?_
    apply Exists.intro
    refine ⟨fun n K hK => ?_, ?_, ?_⟩
    · go_big_quiet_op
      exact hK _ rfl
    · kernel_rfl
    refine shM_step rfl rfl rfl (by rfl) (by rfl) ?_
    apply Exists.intro
    refine ⟨fun n K hK => ?_, ?_, ?_⟩
    · go_big_quiet_op
      exact hK _ rfl
    · kernel_rfl
    refine shM_step rfl rfl rfl (by rfl) (by rfl) ?_
    apply Exists.intro
    refine ⟨fun n K hK => ?_, ?_, ?_⟩
    · go_big_quiet_op
      exact hK _ rfl
    · kernel_rfl
    refine shM_step rfl rfl rfl (by rfl) (by rfl) ?_
    apply Exists.intro
    refine ⟨fun n K hK => ?_, ?_, ?_⟩
    · go_big_quiet_op
      exact hK _ rfl
    · kernel_rfl
    refine shM_step rfl rfl rfl (by rfl) (by rfl) ?_
    apply Exists.intro
    refine ⟨fun n K hK => ?_, ?_, ?_⟩
    · go_big_quiet_op
      exact hK _ rfl
    · kernel_rfl
    refine shM_step rfl rfl rfl (by rfl) (by rfl) ?_
    apply Exists.intro
    refine ⟨fun n K hK => ?_, ?_, ?_⟩
    · go_big_quiet_op
      exact hK _ rfl
    · kernel_rfl
    refine shM_step rfl rfl rfl (by rfl) (by rfl) ?_
    apply Exists.intro
    refine ⟨fun n K hK => ?_, ?_, ?_⟩
    · have x0 : ∀ m : KW n.w, m.w.cell? ⟨w.heap.size, 0, none⟩ = some (.int .i64 op) := fun m => (bx.keep (keepN n.has m.keep) id).cell 0
      have x1 : ∀ m : KW n.w, m.w.cell? ⟨w.heap.size, 1, none⟩ = some (.int .i64 a) := fun m => (bx.keep (keepN n.has m.keep) id).cell 1
      have x2 : ∀ m : KW n.w, m.w.cell? ⟨w.heap.size, 2, none⟩ = some (.int .i64 b) := fun m => (bx.keep (keepN n.has m.keep) id).cell 2
      go_big_quiet_op
      exact hK _ rfl
    · kernel_rfl
    refine shM_step rfl rfl rfl (by rfl) (by rfl) ?_
    apply Exists.intro
    refine ⟨fun n K hK => ?_, ?_, ?_⟩
    · have y0 : ∀ m : KW n.w, m.w.cell? ⟨w.heap.size + 1, 0, none⟩ = some (.int .i64 op') := fun m => (by_.keep (keepN n.has m.keep) id).cell 0
      have y1 : ∀ m : KW n.w, m.w.cell? ⟨w.heap.size + 1, 1, none⟩ = some (.int .i64 a') := fun m => (by_.keep (keepN n.has m.keep) id).cell 1
      have y2 : ∀ m : KW n.w, m.w.cell? ⟨w.heap.size + 1, 2, none⟩ = some (.int .i64 b') := fun m => (by_.keep (keepN n.has m.keep) id).cell 2
      go_big_quiet_op
      exact hK _ rfl
    · kernel_rfl
    refine shM_step rfl rfl rfl (by rfl) (by rfl) ?_
    apply Exists.intro
    refine ⟨fun n K hK => ?_, ?_, ?_⟩
    · go_big_quiet_op
      exact hK _ rfl
    · kernel_rfl
    refine shM_step rfl rfl rfl (by rfl) (by rfl) ?_
    apply Exists.intro
    refine ⟨fun n K hK => ?_, ?_, ?_⟩
    · have x0 : ∀ m : KW n.w, m.w.cell? ⟨w.heap.size, 0, none⟩ = some (.int .i64 op) := fun m => (bx.keep (keepN n.has m.keep) id).cell 0
      have x1 : ∀ m : KW n.w, m.w.cell? ⟨w.heap.size, 1, none⟩ = some (.int .i64 a) := fun m => (bx.keep (keepN n.has m.keep) id).cell 1
      have x2 : ∀ m : KW n.w, m.w.cell? ⟨w.heap.size, 2, none⟩ = some (.int .i64 b) := fun m => (bx.keep (keepN n.has m.keep) id).cell 2
      go_big_quiet_op
      exact hK _ rfl
    · kernel_rfl
    refine shM_step rfl rfl rfl (by rfl) (by rfl) ?_
    apply Exists.intro
    refine ⟨fun n K hK => ?_, ?_, ?_⟩
    · go_big_quiet_op
      apply Exists.intro
      refine ⟨fun m => ?_, ?_⟩
      · go_at_call 14
        exact kept_of (show_gen op a b U _ hU.out hI.out.1.1 hI.out.1.2 (hL.out.keep (keepN gK (keepN n.has m.keep))))
      · exact hK _ rfl
    · kernel_rfl
    refine shM_step rfl rfl rfl (by rfl) (by rfl) ?_
    apply Exists.intro
    refine ⟨fun n K hK => ?_, ?_, ?_⟩
    · have y0 : ∀ m : KW n.w, m.w.cell? ⟨w.heap.size + 1, 0, none⟩ = some (.int .i64 op') := fun m => (by_.keep (keepN n.has m.keep) id).cell 0
      have y1 : ∀ m : KW n.w, m.w.cell? ⟨w.heap.size + 1, 1, none⟩ = some (.int .i64 a') := fun m => (by_.keep (keepN n.has m.keep) id).cell 1
      have y2 : ∀ m : KW n.w, m.w.cell? ⟨w.heap.size + 1, 2, none⟩ = some (.int .i64 b') := fun m => (by_.keep (keepN n.has m.keep) id).cell 2
      go_big_quiet_op
      exact hK _ rfl
    · kernel_rfl
    refine shM_step rfl rfl rfl (by rfl) (by rfl) ?_
    apply Exists.intro
    refine ⟨fun n K hK => ?_, ?_, ?_⟩
    · go_big_quiet_op
      apply Exists.intro
      refine ⟨fun m => ?_, ?_⟩
      · go_at_call 14
        exact kept_of (show_gen op' a' b' V _ hV.out hI.out.2.1 hI.out.2.2 (hL.out.keep (keepN gK (keepN n.has m.keep))))
      · exact hK _ rfl
    · kernel_rfl
    refine shM_step rfl rfl rfl (by rfl) (by rfl) ?_
    apply Exists.intro
    refine ⟨fun n K hK => ?_, ?_, ?_⟩
    · go_big_quiet_op
      exact hK _ rfl
    · kernel_rfl
    refine shM_step rfl rfl rfl (by rfl) (by rfl) ?_
    apply Exists.intro
    refine ⟨fun n K hK => ?_, ?_, ?_⟩
    · go_big_quiet_op
      exact hK _ rfl
    · kernel_rfl
    refine shM_step rfl rfl rfl (by rfl) (by rfl) ?_
    apply Exists.intro
    refine ⟨fun n K hK => ?_, ?_, ?_⟩
    · go_big_quiet_op
      exact hK _ rfl
    · kernel_rfl
    refine shM_step rfl rfl rfl (by rfl) (by rfl) ?_
    apply Exists.intro
    refine ⟨fun n K hK => ?_, ?_, ?_⟩
    · go_big_quiet_op
      exact hK _ rfl
    · kernel_rfl
    refine shM_step rfl rfl rfl (by rfl) (by rfl) ?_
    apply Exists.intro
    refine ⟨fun n K hK => ?_, ?_, ?_⟩
    · go_big_quiet_op
      exact hK _ rfl
    · kernel_rfl
    refine shM_step rfl rfl rfl (by rfl) (by rfl) ?_
    apply Exists.intro
    refine ⟨fun n K hK => ?_, ?_, ?_⟩
    · go_big_quiet_op
      exact hK _ rfl
    · kernel_rfl
    refine shM_step rfl rfl rfl (by rfl) (by rfl) ?_
    apply Exists.intro
    refine ⟨fun n K hK => ?_, ?_, ?_⟩
    · go_big_quiet_op
      apply Exists.intro
      refine ⟨fun m => ?_, ?_⟩
      · go_at_call 15
        exact kept_of (prefix_gen T S _ _ hp.out)
      · exact hK _ rfl
    · kernel_rfl
    refine shM_step rfl rfl rfl (by rfl) (by rfl) ?_
    apply Exists.intro
    refine ⟨fun n K hK => ?_, ?_, ?_⟩
    · have x0 : ∀ m : KW n.w, m.w.cell? ⟨w.heap.size, 0, none⟩ = some (.int .i64 op) := fun m => (bx.keep (keepN n.has m.keep) id).cell 0
      have x1 : ∀ m : KW n.w, m.w.cell? ⟨w.heap.size, 1, none⟩ = some (.int .i64 a) := fun m => (bx.keep (keepN n.has m.keep) id).cell 1
      have x2 : ∀ m : KW n.w, m.w.cell? ⟨w.heap.size, 2, none⟩ = some (.int .i64 b) := fun m => (bx.keep (keepN n.has m.keep) id).cell 2
      go_big_quiet_op
      exact hK _ rfl
    · kernel_rfl
    refine shM_step rfl rfl rfl (by rfl) (by rfl) ?_
    apply Exists.intro
    refine ⟨fun n K hK => ?_, ?_, ?_⟩
    · have y0 : ∀ m : KW n.w, m.w.cell? ⟨w.heap.size + 1, 0, none⟩ = some (.int .i64 op') := fun m => (by_.keep (keepN n.has m.keep) id).cell 0
      have y1 : ∀ m : KW n.w, m.w.cell? ⟨w.heap.size + 1, 1, none⟩ = some (.int .i64 a') := fun m => (by_.keep (keepN n.has m.keep) id).cell 1
      have y2 : ∀ m : KW n.w, m.w.cell? ⟨w.heap.size + 1, 2, none⟩ = some (.int .i64 b') := fun m => (by_.keep (keepN n.has m.keep) id).cell 2
      go_big_quiet_op
      exact hK _ rfl
    · kernel_rfl
    refine shM_step rfl rfl rfl (by rfl) (by rfl) ?_
    apply Exists.intro
    refine ⟨fun n K hK => ?_, ?_, ?_⟩
    · go_big_quiet_op
      exact hK _ rfl
    · kernel_rfl
    refine shM_step rfl rfl rfl (by rfl) (by rfl) ?_
    apply Exists.intro
    refine ⟨fun n K hK => ?_, ?_, ?_⟩
    · go_big_quiet_op
      exact hK _ rfl
    · kernel_rfl
    refine shM_step rfl rfl rfl (by rfl) (by rfl) ?_
    apply Exists.intro
    refine ⟨fun n K hK => ?_, ?_, ?_⟩
    · go_big_quiet_op
      exact hK _ rfl
    · kernel_rfl
    refine shM_step rfl rfl rfl (by rfl) (by rfl) ?_
    apply Exists.intro
    refine ⟨fun n K hK => ?_, ?_, ?_⟩
    · go_big_quiet_op
      exact hK _ rfl
    · kernel_rfl
    refine shM_nil (fun n => ?_)
    have k5 := n.has
    generalize n.w = w5 at k5 ⊢
    go_wp2
    go_ret
    exact ⟨rfl, keepN gK k5⟩

set_option maxRecDepth 100000 in
set_option maxHeartbeats 4000000 in
theorem unlike_d (op a b op' a' b' : Int) (w : World) (hL : Hid (LaidO w)) (hI : Hid ((I64 a ∧ I64 b) ∧ I64 a' ∧ I64 b')) (hx : chk op a b = 0) (hy : chk op' a' b' = 0) (S T : ByteArray) (hS : Hid (str (encI op a b) = S)) (hT : Hid (str (encI op' a' b') = T)) (U V : ByteArray) (hU : Hid (str (showI op a b) = U)) (hV : Hid (str (showI op' a' b') = V)) (q1 : (S.toList == T.toList) = false) (q2 : (U.toList == V.toList) = false) (hp : Hid (Lib.hasPrefix T.data.toList S.data.toList = false)) (e0 : (op == op') = false) :
    Calls Tryd.prog 4 #[instV op a b, instV op' a' b'] w fun e w' => e = .returned (.bool true) ∧ Keep NoB w w' := by
  have HX := Lib.hid hx
  have HY := Lib.hid hy
  clear hx hy
  have bx0 := (Blk.new w 23 #[.int .i64 op, .int .i64 a, .int .i64 b]).alloc (.cells #[.int .i64 op', .int .i64 a', .int .i64 b'] 23)
  have by0 := Blk.new (w.alloc (.cells #[.int .i64 op, .int .i64 a, .int .i64 b] 23)) 23 #[.int .i64 op', .int .i64 a', .int .i64 b']
  rw [World.size_alloc] at by0
  have gK := ((Keep.refl NoB w).alloc (.cells #[.int .i64 op, .int .i64 a, .int .i64 b] 23)).alloc (.cells #[.int .i64 op', .int .i64 a', .int .i64 b'] 23)
  go_enter Tryd.func4, Tryd.ntmps4
  go_wp2_with fail
  refine (alive_any _ (hL.out.keep gK)).mono ?_
  rintro e w1 ⟨rfl, k1⟩
  have bx := bx0.keep k1 id
  have by_ := by0.keep k1 id
  replace gK := keepN gK k1
  clear bx0 by0 k1
  go_wp2_with fail
  · skip
    refine wp_region_sh ((0, false) :: (1, false) :: (2, false) :: (3, false) :: (4, false) :: (5, false) :: []) (fun w' => Keep NoB w1 w') (by kernel_rfl) (by kernel_rfl) (by rfl) (by kernel_rfl) (stable_keep w1) (Keep.refl NoB w1).drew ?_
    refine shM_step rfl rfl rfl (by rfl) (by rfl) ?_
    apply Exists.intro
    refine ⟨fun n K hK => ?_, ?_, ?_⟩
    · have x0 : ∀ m : KW n.w, m.w.cell? ⟨w.heap.size, 0, none⟩ = some (.int .i64 op) := fun m => (bx.keep (keepN n.has m.keep) id).cell 0
      have x1 : ∀ m : KW n.w, m.w.cell? ⟨w.heap.size, 1, none⟩ = some (.int .i64 a) := fun m => (bx.keep (keepN n.has m.keep) id).cell 1
      have x2 : ∀ m : KW n.w, m.w.cell? ⟨w.heap.size, 2, none⟩ = some (.int .i64 b) := fun m => (bx.keep (keepN n.has m.keep) id).cell 2
      go_big_quiet_op
      exact hK _ rfl
    · kernel_rfl
    refine shM_step rfl rfl rfl (by rfl) (by rfl) ?_
    apply Exists.intro
    refine ⟨fun n K hK => ?_, ?_, ?_⟩
    · go_big_quiet_op
      apply Exists.intro
      refine ⟨fun m => ?_, ?_⟩
      · go_at_call 13
        exact kept_of (bytes_gen op a b S _ hS.out hI.out.1.1 hI.out.1.2)
      · exact hK _ rfl
    · kernel_rfl
    refine shM_step rfl rfl rfl (by rfl) (by rfl) ?_
    apply Exists.intro
    refine ⟨fun n K hK => ?_, ?_, ?_⟩
    · have y0 : ∀ m : KW n.w, m.w.cell? ⟨w.heap.size + 1, 0, none⟩ = some (.int .i64 op') := fun m => (by_.keep (keepN n.has m.keep) id).cell 0
      have y1 : ∀ m : KW n.w, m.w.cell? ⟨w.heap.size + 1, 1, none⟩ = some (.int .i64 a') := fun m => (by_.keep (keepN n.has m.keep) id).cell 1
      have y2 : ∀ m : KW n.w, m.w.cell? ⟨w.heap.size + 1, 2, none⟩ = some (.int .i64 b') := fun m => (by_.keep (keepN n.has m.keep) id).cell 2
      go_big_quiet_op
      exact hK _ rfl
    · kernel_rfl
    refine shM_step rfl rfl rfl (by rfl) (by rfl) ?_
    apply Exists.intro
    refine ⟨fun n K hK => ?_, ?_, ?_⟩
    · go_big_quiet_op
      apply Exists.intro
      refine ⟨fun m => ?_, ?_⟩
      · go_at_call 13
        exact kept_of (bytes_gen op' a' b' T _ hT.out hI.out.2.1 hI.out.2.2)
      · exact hK _ rfl
    · kernel_rfl
    refine shM_step rfl rfl rfl (by rfl) (by rfl) ?_
    apply Exists.intro
    refine ⟨fun n K hK => ?_, ?_, ?_⟩
    · go_big_quiet_op
      exact hK _ rfl
    · kernel_rfl
    refine shM_step rfl rfl rfl (by rfl) (by rfl) ?_
    apply Exists.intro
    refine ⟨fun n K hK => ?_, ?_, ?_⟩
    · go_big_quiet_op
      exact hK _ rfl
    · kernel_rfl
    refine shM_nil (fun n => ?_)
    have k2 := n.has
    generalize n.w = w2 at k2 ⊢
    have bx2 := bx.keep k2 id
    have by2 := by_.keep k2 id
    replace gK := keepN gK k2
    have x0 : w2.cell? ⟨w.heap.size, 0, none⟩ = some (.int .i64 op) := bx2.cell 0
    have x1 : w2.cell? ⟨w.heap.size, 1, none⟩ = some (.int .i64 a) := bx2.cell 1
    have x2 : w2.cell? ⟨w.heap.size, 2, none⟩ = some (.int .i64 b) := bx2.cell 2
    clear k2 bx by_
    go_wp2_with fail
    refine (check_gen op a b 0 _ HX.out).mono ?_
    rintro e w3 ⟨rfl, k3⟩
    have bx := bx2.keep k3 id
    have by_ := by2.keep k3 id
    replace gK := keepN gK k3
    clear k3 bx2 by2 x0 x1 x2
    have y0 : w3.cell? ⟨w.heap.size + 1, 0, none⟩ = some (.int .i64 op') := by_.cell 0
    have y1 : w3.cell? ⟨w.heap.size + 1, 1, none⟩ = some (.int .i64 a') := by_.cell 1
    have y2 : w3.cell? ⟨w.heap.size + 1, 2, none⟩ = some (.int .i64 b') := by_.cell 2
    go_wp2_with fail
    refine (check_gen op' a' b' 0 _ HY.out).mono ?_
    rintro e w4 ⟨rfl, k4⟩
    have bx4 := bx.keep k4 id
    have by4 := by_.keep k4 id
    replace gK := keepN gK k4
    clear k4 bx by_ y0 y1 y2
    have bx := bx4
    have by_ := by4
    clear bx4 by4
    go_wp2_with fail
    refine wp_region_sh ((0, false) :: (1, false) :: (2, false) :: (3, false) :: (4, false) :: (5, false) :: (6, false) :: (7, false) :: (8, false) :: (9, false) :: (10, false) :: (11, false) :: (12, false) :: (13, false) :: (14, false) :: (15, false) :: (16, false) :: (17, false) :: (18, false) :: (19, false) :: (20, false) :: (21, false) :: (22, false) :: (23, false) :: (24, false) :: (25, false) :: (26, false) :: (27, false) :: (28, false) :: (29, false) :: (30, false) :: []) (fun w' => Keep NoB w4 w') (by kernel_rfl) (by kernel_rfl) (by rfl) (by kernel_rfl) (stable_keep w4) (Keep.refl NoB w4).drew ?_
    refine shM_step rfl rfl rfl (by rfl) (by rfl) ?_
    apply Exists.intro
    refine ⟨fun n K hK => ?_, ?_, ?_⟩
    · go_big_quiet_op
      exact hK _ rfl
    · kernel_rfl
    refine shM_step rfl rfl rfl (by rfl) (by rfl) ?_
    apply Exists.intro
    refine ⟨fun n K hK => ?_, ?_, ?_⟩
    · go_big_quiet_op
      exact hK _ rfl
    · kernel_rfl
    refine shM_step rfl rfl rfl (by rfl) (by rfl) ?_
    apply Exists.intro
    refine ⟨fun n K hK => ?_, ?_, ?_⟩
    · have x0 : ∀ m : KW n.w, m.w.cell? ⟨w.heap.size, 0, none⟩ = some (.int .i64 op) := fun m => (bx.keep (keepN n.has m.keep) id).cell 0
      have x1 : ∀ m : KW n.w, m.w.cell? ⟨w.heap.size, 1, none⟩ = some (.int .i64 a) := fun m => (bx.keep (keepN n.has m.keep) id).cell 1
      have x2 : ∀ m : KW n.w, m.w.cell? ⟨w.heap.size, 2, none⟩ = some (.int .i64 b) := fun m => (bx.keep (keepN n.has m.keep) id).cell 2
      go_big_quiet_op
      exact hK _ rfl
    · kernel_rfl
    refine shM_step rfl rfl rfl (by rfl) (by rfl) ?_
    apply Exists.intro
    refine ⟨fun n K hK => ?_, ?_, ?_⟩
    · have y0 : ∀ m : KW n.w, m.w.cell? ⟨w.heap.size + 1, 0, none⟩ = some (.int .i64 op') := fun m => (by_.keep (keepN n.has m.keep) id).cell 0
      have y1 : ∀ m : KW n.w, m.w.cell? ⟨w.heap.size + 1, 1, none⟩ = some (.int .i64 a') := fun m => (by_.keep (keepN n.has m.keep) id).cell 1
      have y2 : ∀ m : KW n.w, m.w.cell? ⟨w.heap.size + 1, 2, none⟩ = some (.int .i64 b') := fun m => (by_.keep (keepN n.has m.keep) id).cell 2
      go_big_quiet_op
      exact hK _ rfl
    · kernel_rfl
    refine shM_step rfl rfl rfl (by rfl) (by rfl) ?_
    apply Exists.intro
    refine ⟨fun n K hK => ?_, ?_, ?_⟩
    · go_big_quiet_op
      exact hK _ rfl
    · kernel_rfl
    refine shM_step rfl rfl rfl (by rfl) (by rfl) ?_
    apply Exists.intro
    refine ⟨fun n K hK => ?_, ?_, ?_⟩
    · go_big_quiet_op
      exact hK _ rfl
    · kernel_rfl
    refine shM_step rfl rfl rfl (by rfl) (by rfl) ?_
    apply Exists.intro
    refine ⟨fun n K hK => ?_, ?_, ?_⟩
    · go_big_quiet_op
      exact hK _ rfl
    · kernel_rfl
    refine shM_step rfl rfl rfl (by rfl) (by rfl) ?_
    apply Exists.intro
    refine ⟨fun n K hK => ?_, ?_, ?_⟩
    · go_big_quiet_op
      exact hK _ rfl
    · kernel_rfl
    refine shM_step rfl rfl rfl (by rfl) (by rfl) ?_
    apply Exists.intro
    refine ⟨fun n K hK => ?_, ?_, ?_⟩
    · go_big_quiet_op
      exact hK _ rfl
    · kernel_rfl
    refine shM_step rfl rfl rfl (by rfl) (by rfl) ?_
    apply Exists.intro
    refine ⟨fun n K hK => ?_, ?_, ?_⟩
    · go_big_quiet_op
      exact hK _ rfl
    · kernel_rfl
    refine shM_step rfl rfl rfl (by rfl) (by rfl) ?_
    apply Exists.intro
    refine ⟨fun n K hK => ?_, ?_, ?_⟩
    · go_big_quiet_op
      exact hK _ rfl
    · kernel_rfl
    refine shM_step rfl rfl rfl (by rfl) (by rfl) ?_
    apply Exists.intro
    refine ⟨fun n K hK => ?_, ?_, ?_⟩
    · have x0 : ∀ m : KW n.w, m.w.cell? ⟨w.heap.size, 0, none⟩ = some (.int .i64 op) := fun m => (bx.keep (keepN n.has m.keep) id).cell 0
      have x1 : ∀ m : KW n.w, m.w.cell? ⟨w.heap.size, 1, none⟩ = some (.int .i64 a) := fun m => (bx.keep (keepN n.has m.keep) id).cell 1
      have x2 : ∀ m : KW n.w, m.w.cell? ⟨w.heap.size, 2, none⟩ = some (.int .i64 b) := fun m => (bx.keep (keepN n.has m.keep) id).cell 2
      go_big_quiet_op
      exact hK _ rfl
    · kernel_rfl
    refine shM_step rfl rfl rfl (by rfl) (by rfl) ?_
    apply Exists.intro
    refine ⟨fun n K hK => ?_, ?_, ?_⟩
    · have y0 : ∀ m : KW n.w, m.w.cell? ⟨w.heap.size + 1, 0, none⟩ = some (.int .i64 op') := fun m => (by_.keep (keepN n.has m.keep) id).cell 0
      have y1 : ∀ m : KW n.w, m.w.cell? ⟨w.heap.size + 1, 1, none⟩ = some (.int .i64 a') := fun m => (by_.keep (keepN n.has m.keep) id).cell 1
      have y2 : ∀ m : KW n.w, m.w.cell? ⟨w.heap.size + 1, 2, none⟩ = some (.int .i64 b') := fun m => (by_.keep (keepN n.has m.keep) id).cell 2
      go_big_quiet_op
      exact hK _ rfl
    · kernel_rfl
    refine shM_step rfl rfl rfl (by rfl) (by rfl) ?_
    apply Exists.intro
    refine ⟨fun n K hK => ?_, ?_, ?_⟩
    · go_big_quiet_op
      exact hK _ rfl
    · kernel_rfl
    refine shM_step rfl rfl rfl (by rfl) (by rfl) ?_
    apply Exists.intro
    refine ⟨fun n K hK => ?_, ?_, ?_⟩
    · have x0 : ∀ m : KW n.w, m.w.cell? ⟨w.heap.size, 0, none⟩ = some (.int .i64 op) := fun m => (bx.keep (keepN n.has m.keep) id).cell 0
      have x1 : ∀ m : KW n.w, m.w.cell? ⟨w.heap.size, 1, none⟩ = some (.int .i64 a) := fun m => (bx.keep (keepN n.has m.keep) id).cell 1
      have x2 : ∀ m : KW n.w, m.w.cell? ⟨w.heap.size, 2, none⟩ = some (.int .i64 b) := fun m => (bx.keep (keepN n.has m.keep) id).cell 2
      go_big_quiet_op
      exact hK _ rfl
    · kernel_rfl
    refine shM_step rfl rfl rfl (by rfl) (by rfl) ?_
    apply Exists.intro
    refine ⟨fun n K hK => ?_, ?_, ?_⟩
    · go_big_quiet_op
      apply Exists.intro
      refine ⟨fun m => ?_, ?_⟩
      · go_at_call 14
        exact kept_of (show_gen op a b U _ hU.out hI.out.1.1 hI.out.1.2 (hL.out.keep (keepN gK (keepN n.has m.keep))))
      · exact hK _ rfl
    · kernel_rfl
    refine shM_step rfl rfl rfl (by rfl) (by rfl) ?_
    apply Exists.intro
    refine ⟨fun n K hK => ?_, ?_, ?_⟩
    · have y0 : ∀ m : KW n.w, m.w.cell? ⟨w.heap.size + 1, 0, none⟩ = some (.int .i64 op') := fun m => (by_.keep (keepN n.has m.keep) id).cell 0
      have y1 : ∀ m : KW n.w, m.w.cell? ⟨w.heap.size + 1, 1, none⟩ = some (.int .i64 a') := fun m => (by_.keep (keepN n.has m.keep) id).cell 1
      have y2 : ∀ m : KW n.w, m.w.cell? ⟨w.heap.size + 1, 2, none⟩ = some (.int .i64 b') := fun m => (by_.keep (keepN n.has m.keep) id).cell 2
      go_big_quiet_op
      exact hK _ rfl
    · kernel_rfl
    refine shM_step rfl rfl rfl (by rfl) (by rfl) ?_
    apply Exists.intro
    refine ⟨fun n K hK => ?_, ?_, ?_⟩
    · go_big_quiet_op
      apply Exists.intro
      refine ⟨fun m => ?_, ?_⟩
      · go_at_call 14
        exact kept_of (show_gen op' a' b' V _ hV.out hI.out.2.1 hI.out.2.2 (hL.out.keep (keepN gK (keepN n.has m.keep))))
      · exact hK _ rfl
    · kernel_rfl
    refine shM_step rfl rfl rfl (by rfl) (by rfl) ?_
    apply Exists.intro
    refine ⟨fun n K hK => ?_, ?_, ?_⟩
    · go_big_quiet_op
      exact hK _ rfl
    · kernel_rfl
    refine shM_step rfl rfl rfl (by rfl) (by rfl) ?_
    apply Exists.intro
    refine ⟨fun n K hK => ?_, ?_, ?_⟩
    · go_big_quiet_op
      exact hK _ rfl
    · kernel_rfl
    refine shM_step rfl rfl rfl (by rfl) (by rfl) ?_
    apply Exists.intro
    refine ⟨fun n K hK => ?_, ?_, ?_⟩
    · go_big_quiet_op
      exact hK _ rfl
    · kernel_rfl
    refine shM_step rfl rfl rfl (by rfl) (by rfl) ?_
    apply Exists.intro
    refine ⟨fun n K hK => ?_, ?_, ?_⟩
    · go_big_quiet_op
      exact hK _ rfl
    · kernel_rfl
    refine shM_step rfl rfl rfl (by rfl) (by rfl) ?_
    apply Exists.intro
    refine ⟨fun n K hK => ?_, ?_, ?_⟩
    · go_big_quiet_op
      exact hK _ rfl
    · kernel_rfl
    refine shM_step rfl rfl rfl (by rfl) (by rfl) ?_
    apply Exists.intro
    refine ⟨fun n K hK => ?_, ?_, ?_⟩
    · go_big_quiet_op
      exact hK _ rfl
    · kernel_rfl
    refine shM_step rfl rfl rfl (by rfl) (by rfl) ?_
    apply Exists.intro
    refine ⟨fun n K hK => ?_, ?_, ?_⟩
    · go_big_quiet_op
      apply Exists.intro
      refine ⟨fun m => ?_, ?_⟩
      · go_at_call 15
        exact kept_of (prefix_gen T S _ _ hp.out)
      · exact hK _ rfl
    · kernel_rfl
    refine shM_step rfl rfl rfl (by rfl) (by rfl) ?_
    apply Exists.intro
    refine ⟨fun n K hK => ?_, ?_, ?_⟩
    · have x0 : ∀ m : KW n.w, m.w.cell? ⟨w.heap.size, 0, none⟩ = some (.int .i64 op) := fun m => (bx.keep (keepN n.has m.keep) id).cell 0
      have x1 : ∀ m : KW n.w, m.w.cell? ⟨w.heap.size, 1, none⟩ = some (.int .i64 a) := fun m => (bx.keep (keepN n.has m.keep) id).cell 1
      have x2 : ∀ m : KW n.w, m.w.cell? ⟨w.heap.size, 2, none⟩ = some (.int .i64 b) := fun m => (bx.keep (keepN n.has m.keep) id).cell 2
      go_big_quiet_op
      exact hK _ rfl
    · kernel_rfl
    refine shM_step rfl rfl rfl (by rfl) (by rfl) ?_
    apply Exists.intro
    refine ⟨fun n K hK => ?_, ?_, ?_⟩
    · have y0 : ∀ m : KW n.w, m.w.cell? ⟨w.heap.size + 1, 0, none⟩ = some (.int .i64 op') := fun m => (by_.keep (keepN n.has m.keep) id).cell 0
      have y1 : ∀ m : KW n.w, m.w.cell? ⟨w.heap.size + 1, 1, none⟩ = some (.int .i64 a') := fun m => (by_.keep (keepN n.has m.keep) id).cell 1
      have y2 : ∀ m : KW n.w, m.w.cell? ⟨w.heap.size + 1, 2, none⟩ = some (.int .i64 b') := fun m => (by_.keep (keepN n.has m.keep) id).cell 2
      go_big_quiet_op
      exact hK _ rfl
    · kernel_rfl
    refine shM_step rfl rfl rfl (by rfl) (by rfl) ?_
    apply Exists.intro
    refine ⟨fun n K hK => ?_, ?_, ?_⟩
    · go_big_quiet_op
      exact hK _ rfl
    · kernel_rfl
    refine shM_step rfl rfl rfl (by rfl) (by rfl) ?_
    apply Exists.intro
    refine ⟨fun n K hK => ?_, ?_, ?_⟩
    · go_big_quiet_op
      exact hK _ rfl
    · kernel_rfl
    refine shM_step rfl rfl rfl (by rfl) (by rfl) ?_
    apply Exists.intro
    refine ⟨fun n K hK => ?_, ?_, ?_⟩
    · go_big_quiet_op
      exact hK _ rfl
    · kernel_rfl
    refine shM_step rfl rfl rfl (by rfl) (by rfl) ?_
    apply Exists.intro
    refine ⟨fun n K hK => ?_, ?_, ?_⟩
    · go_big_quiet_op
      exact hK _ rfl
    · kernel_rfl
    refine shM_nil (fun n => ?_)
    have k5 := n.has
    generalize n.w = w5 at k5 ⊢
    go_wp2
    go_ret
    exact ⟨rfl, keepN gK k5⟩

set_option maxRecDepth 100000 in
set_option maxHeartbeats 4000000 in
theorem unlike_e (op a b op' a' b' : Int) (w : World) (hL : Hid (LaidO w)) (hI : Hid ((I64 a ∧ I64 b) ∧ I64 a' ∧ I64 b')) (hx : chk op a b = 0) (hy : chk op' a' b' = 0) (S T : ByteArray) (hS : Hid (str (encI op a b) = S)) (hT : Hid (str (encI op' a' b') = T)) (U V : ByteArray) (hU : Hid (str (showI op a b) = U)) (hV : Hid (str (showI op' a' b') = V)) (q1 : (S.toList == T.toList) = false) (q2 : (U.toList == V.toList) = false) (hp : Hid (Lib.hasPrefix T.data.toList S.data.toList = false)) (e0 : (op == op') = true) (e1 : (a == a') = false) :
    Calls Tryd.prog 4 #[instV op a b, instV op' a' b'] w fun e w' => e = .returned (.bool true) ∧ Keep NoB w w' := by
  have HX := Lib.hid hx
  have HY := Lib.hid hy
  clear hx hy
  have bx0 := (Blk.new w 23 #[.int .i64 op, .int .i64 a, .int .i64 b]).alloc (.cells #[.int .i64 op', .int .i64 a', .int .i64 b'] 23)
  have by0 := Blk.new (w.alloc (.cells #[.int .i64 op, .int .i64 a, .int .i64 b] 23)) 23 #[.int .i64 op', .int .i64 a', .int .i64 b']
  rw [World.size_alloc] at by0
  have gK := ((Keep.refl NoB w).alloc (.cells #[.int .i64 op, .int .i64 a, .int .i64 b] 23)).alloc (.cells #[.int .i64 op', .int .i64 a', .int .i64 b'] 23)
  go_enter Tryd.func4, Tryd.ntmps4
  go_wp2_with fail
  refine (alive_any _ (hL.out.keep gK)).mono ?_
  rintro e w1 ⟨rfl, k1⟩
  have bx := bx0.keep k1 id
  have by_ := by0.keep k1 id
  replace gK := keepN gK k1
  clear bx0 by0 k1
  go_wp2_with fail
  · skip
    refine wp_region_sh ((0, false) :: (1, false) :: (2, false) :: (3, false) :: (4, false) :: (5, false) :: []) (fun w' => Keep NoB w1 w') (by kernel_rfl) (by kernel_rfl) (by rfl) (by kernel_rfl) (stable_keep w1) (Keep.refl NoB w1).drew ?_
    refine shM_step rfl rfl rfl (by rfl) (by rfl) ?_
    apply Exists.intro
    refine ⟨fun n K hK => ?_, ?_, ?_⟩
    · have x0 : ∀ m : KW n.w, m.w.cell? ⟨w.heap.size, 0, none⟩ = some (.int .i64 op) := fun m => (bx.keep (keepN n.has m.keep) id).cell 0
      have x1 : ∀ m : KW n.w, m.w.cell? ⟨w.heap.size, 1, none⟩ = some (.int .i64 a) := fun m => (bx.keep (keepN n.has m.keep) id).cell 1
      have x2 : ∀ m : KW n.w, m.w.cell? ⟨w.heap.size, 2, none⟩ = some (.int .i64 b) := fun m => (bx.keep (keepN n.has m.keep) id).cell 2
      go_big_quiet_op
      exact hK _ rfl
    · kernel_rfl
    refine shM_step rfl rfl rfl (by rfl) (by rfl) ?_
    apply Exists.intro
    refine ⟨fun n K hK => ?_, ?_, ?_⟩
    · go_big_quiet_op
      apply Exists.intro
      refine ⟨fun m => ?_, ?_⟩
      · go_at_call 13
        exact kept_of (bytes_gen op a b S _ hS.out hI.out.1.1 hI.out.1.2)
      · exact hK _ rfl
    · kernel_rfl
    refine shM_step rfl rfl rfl (by rfl) (by rfl) ?_
    apply Exists.intro
    refine ⟨fun n K hK => ?_, ?_, ?_⟩
    · have y0 : ∀ m : KW n.w, m.w.cell? ⟨w.heap.size + 1, 0, none⟩ = some (.int .i64 op') := fun m => (by_.keep (keepN n.has m.keep) id).cell 0
      have y1 : ∀ m : KW n.w, m.w.cell? ⟨w.heap.size + 1, 1, none⟩ = some (.int .i64 a') := fun m => (by_.keep (keepN n.has m.keep) id).cell 1
      have y2 : ∀ m : KW n.w, m.w.cell? ⟨w.heap.size + 1, 2, none⟩ = some (.int .i64 b') := fun m => (by_.keep (keepN n.has m.keep) id).cell 2
      go_big_quiet_op
      exact hK _ rfl
    · kernel_rfl
    refine shM_step rfl rfl rfl (by rfl) (by rfl) ?_
    apply Exists.intro
    refine ⟨fun n K hK => ?_, ?_, ?_⟩
    · go_big_quiet_op
      apply Exists.intro
      refine ⟨fun m => ?_, ?_⟩
      · go_at_call 13
        exact kept_of (bytes_gen op' a' b' T _ hT.out hI.out.2.1 hI.out.2.2)
      · exact hK _ rfl
    · kernel_rfl
    refine shM_step rfl rfl rfl (by rfl) (by rfl) ?_
    apply Exists.intro
    refine ⟨fun n K hK => ?_, ?_, ?_⟩
    · go_big_quiet_op
      exact hK _ rfl
    · kernel_rfl
    refine shM_step rfl rfl rfl (by rfl) (by rfl) ?_
    apply Exists.intro
    refine ⟨fun n K hK => ?_, ?_, ?_⟩
    · go_big_quiet_op
      exact hK _ rfl
    · kernel_rfl
    refine shM_nil (fun n => ?_)
    have k2 := n.has
    generalize n.w = w2 at k2 ⊢
    have bx2 := bx.keep k2 id
    have by2 := by_.keep k2 id
    replace gK := keepN gK k2
    have x0 : w2.cell? ⟨w.heap.size, 0, none⟩ = some (.int .i64 op) := bx2.cell 0
    have x1 : w2.cell? ⟨w.heap.size, 1, none⟩ = some (.int .i64 a) := bx2.cell 1
    have x2 : w2.cell? ⟨w.heap.size, 2, none⟩ = some (.int .i64 b) := bx2.cell 2
    clear k2 bx by_
    go_wp2_with fail
    refine (check_gen op a b 0 _ HX.out).mono ?_
    rintro e w3 ⟨rfl, k3⟩
    have bx := bx2.keep k3 id
    have by_ := by2.keep k3 id
    replace gK := keepN gK k3
    clear k3 bx2 by2 x0 x1 x2
    have y0 : w3.cell? ⟨w.heap.size + 1, 0, none⟩ = some (.int .i64 op') := by_.cell 0
    have y1 : w3.cell? ⟨w.heap.size + 1, 1, none⟩ = some (.int .i64 a') := by_.cell 1
    have y2 : w3.cell? ⟨w.heap.size + 1, 2, none⟩ = some (.int .i64 b') := by_.cell 2
    go_wp2_with fail
    refine (check_gen op' a' b' 0 _ HY.out).mono ?_
    rintro e w4 ⟨rfl, k4⟩
    have bx4 := bx.keep k4 id
    have by4 := by_.keep k4 id
    replace gK := keepN gK k4
    clear k4 bx by_ y0 y1 y2
    have bx := bx4
    have by_ := by4
    clear bx4 by4
    go_wp2_with fail
    refine wp_region_sh ((0, false) :: (1, false) :: (2, false) :: (3, false) :: (4, false) :: (5, false) :: (6, false) :: (7, false) :: (8, false) :: (9, false) :: (10, false) :: (11, false) :: (12, false) :: (13, false) :: (14, false) :: (15, false) :: (16, false) :: (17, false) :: (18, false) :: (19, false) :: (20, false) :: (21, false) :: (22, false) :: (23, false) :: (24, false) :: (25, false) :: (26, false) :: (27, false) :: (28, false) :: (29, false) :: (30, false) :: []) (fun w' => Keep NoB w4 w') (by kernel_rfl) (by kernel_rfl) (by rfl) (by kernel_rfl) (stable_keep w4) (Keep.refl NoB w4).drew ?_
    refine shM_step rfl rfl rfl (by rfl) (by rfl) ?_
    apply Exists.intro
    refine ⟨fun n K hK => ?_, ?_, ?_⟩
    · go_big_quiet_op
      exact hK _ rfl
    · kernel_rfl
    refine shM_step rfl rfl rfl (by rfl) (by rfl) ?_
    apply Exists.intro
    refine ⟨fun n K hK => ?_, ?_, ?_⟩
    · go_big_quiet_op
      exact hK _ rfl
    · kernel_rfl
    refine shM_step rfl rfl rfl (by rfl) (by rfl) ?_
    apply Exists.intro
    refine ⟨fun n K hK => ?_, ?_, ?_⟩
    · have x0 : ∀ m : KW n.w, m.w.cell? ⟨w.heap.size, 0, none⟩ = some (.int .i64 op) := fun m => (bx.keep (keepN n.has m.keep) id).cell 0
      have x1 : ∀ m : KW n.w, m.w.cell? ⟨w.heap.size, 1, none⟩ = some (.int .i64 a) := fun m => (bx.keep (keepN n.has m.keep) id).cell 1
      have x2 : ∀ m : KW n.w, m.w.cell? ⟨w.heap.size, 2, none⟩ = some (.int .i64 b) := fun m => (bx.keep (keepN n.has m.keep) id).cell 2
      go_big_quiet_op
      exact hK _ rfl
    · kernel_rfl
    refine shM_step rfl rfl rfl (by rfl) (by rfl) ?_
    apply Exists.intro
    refine ⟨fun n K hK => ?_, ?_, ?_⟩
    · have y0 : ∀ m : KW n.w, m.w.cell? ⟨w.heap.size + 1, 0, none⟩ = some (.int .i64 op') := fun m => (by_.keep (keepN n.has m.keep) id).cell 0
      have y1 : ∀ m : KW n.w, m.w.cell? ⟨w.heap.size + 1, 1, none⟩ = some (.int .i64 a') := fun m => (by_.keep (keepN n.has m.keep) id).cell 1
      have y2 : ∀ m : KW n.w, m.w.cell? ⟨w.heap.size + 1, 2, none⟩ = some (.int .i64 b') := fun m => (by_.keep (keepN n.has m.keep) id).cell 2
      go_big_quiet_op
      exact hK _ rfl
    · kernel_rfl
    refine shM_step rfl rfl rfl (by rfl) (by rfl) ?_
    apply Exists.intro
    refine ⟨fun n K hK => ?_, ?_, ?_⟩
    · go_big_quiet_op
      exact hK _ rfl
    · kernel_rfl
    refine shM_step rfl rfl rfl (by rfl) (by rfl) ?_
    apply Exists.intro
    refine ⟨fun n K hK => ?_, ?_, ?_⟩
    · go_big_quiet_op
      exact hK _ rfl
    · kernel_rfl
    refine shM_step rfl rfl rfl (by rfl) (by rfl) ?_
    apply Exists.intro
    refine ⟨fun n K hK => ?_, ?_, ?_⟩
    · go_big_quiet_op
      exact hK _ rfl
    · kernel_rfl
    refine shM_step rfl rfl rfl (by rfl) (by rfl) ?_
    apply Exists.intro
    refine ⟨fun n K hK => ?_, ?_, ?_⟩
    · go_big_quiet_op
      exact hK _ rfl
    · kernel_rfl
    refine shM_step rfl rfl rfl (by rfl) (by rfl) ?_
    apply Exists.intro
    refine ⟨fun n K hK => ?_, ?_, ?_⟩
    · go_big_quiet_op
      exact hK _ rfl
    · kernel_rfl
    refine shM_step rfl rfl rfl (by rfl) (by rfl) ?_
    apply Exists.intro
    refine ⟨fun n K hK => ?_, ?_, ?_⟩
    · go_big_quiet_op
      exact hK _ rfl
    · kernel_rfl
    refine shM_step rfl rfl rfl (by rfl) (by rfl) ?_
    apply Exists.intro
    refine ⟨fun n K hK => ?_, ?_, ?_⟩
    · go_big_quiet_op
      exact hK _ rfl
    · kernel_rfl
    refine shM_step rfl rfl rfl (by rfl) (by rfl) ?_
    apply Exists.intro
    refine ⟨fun n K hK => ?_, ?_, ?_⟩
    · have x0 : ∀ m : KW n.w, m.w.cell? ⟨w.heap.size, 0, none⟩ = some (.int .i64 op) := fun m => (bx.keep (keepN n.has m.keep) id).cell 0
      have x1 : ∀ m : KW n.w, m.w.cell? ⟨w.heap.size, 1, none⟩ = some (.int .i64 a) := fun m => (bx.keep (keepN n.has m.keep) id).cell 1
      have x2 : ∀ m : KW n.w, m.w.cell? ⟨w.heap.size, 2, none⟩ = some (.int .i64 b) := fun m => (bx.keep (keepN n.has m.keep) id).cell 2
      go_big_quiet_op
      exact hK _ rfl
    · kernel_rfl
    refine shM_step rfl rfl rfl (by rfl) (by rfl) ?_
    apply Exists.intro
    refine ⟨fun n K hK => ?_, ?_, ?_⟩
    · have y0 : ∀ m : KW n.w, m.w.cell? ⟨w.heap.size + 1, 0, none⟩ = some (.int .i64 op') := fun m => (by_.keep (keepN n.has m.keep) id).cell 0
      have y1 : ∀ m : KW n.w, m.w.cell? ⟨w.heap.size + 1, 1, none⟩ = some (.int .i64 a') := fun m => (by_.keep (keepN n.has m.keep) id).cell 1
      have y2 : ∀ m : KW n.w, m.w.cell? ⟨w.heap.size + 1, 2, none⟩ = some (.int .i64 b') := fun m => (by_.keep (keepN n.has m.keep) id).cell 2
      go_big_quiet_op
      exact hK _ rfl
    · kernel_rfl
    refine shM_step rfl rfl rfl (by rfl) (by rfl) ?_
    apply Exists.intro
    refine ⟨fun n K hK => ?_, ?_, ?_⟩
    · go_big_quiet_op
      exact hK _ rfl
    · kernel_rfl
    refine shM_step rfl rfl rfl (by rfl) (by rfl) ?_
    apply Exists.intro
    refine ⟨fun n K hK => ?_, ?_, ?_⟩
    · have x0 : ∀ m : KW n.w, m.w.cell? ⟨w.heap.size, 0, none⟩ = some (.int .i64 op) := fun m => (bx.keep (keepN n.has m.keep) id).cell 0
      have x1 : ∀ m : KW n.w, m.w.cell? ⟨w.heap.size, 1, none⟩ = some (.int .i64 a) := fun m => (bx.keep (keepN n.has m.keep) id).cell 1
      have x2 : ∀ m : KW n.w, m.w.cell? ⟨w.heap.size, 2, none⟩ = some (.int .i64 b) := fun m => (bx.keep (keepN n.has m.keep) id).cell 2
      go_big_quiet_op
      exact hK _ rfl
    · kernel_rfl
    refine shM_step rfl rfl rfl (by rfl) (by rfl) ?_
    apply Exists.intro
    refine ⟨fun n K hK => ?_, ?_, ?_⟩
    · go_big_quiet_op
      apply Exists.intro
      refine ⟨fun m => ?_, ?_⟩
      · go_at_call 14
        exact kept_of (show_gen op a b U _ hU.out hI.out.1.1 hI.out.1.2 (hL.out.keep (keepN gK (keepN n.has m.keep))))
      · exact hK _ rfl
    · kernel_rfl
    refine shM_step rfl rfl rfl (by rfl) (by rfl) ?_
    apply Exists.intro
    refine ⟨fun n K hK => ?_, ?_, ?_⟩
    · have y0 : ∀ m : KW n.w, m.w.cell? ⟨w.heap.size + 1, 0, none⟩ = some (.int .i64 op') := fun m => (by_.keep (keepN n.has m.keep) id).cell 0
      have y1 : ∀ m : KW n.w, m.w.cell? ⟨w.heap.size + 1, 1, none⟩ = some (.int .i64 a') := fun m => (by_.keep (keepN n.has m.keep) id).cell 1
      have y2 : ∀ m : KW n.w, m.w.cell? ⟨w.heap.size + 1, 2, none⟩ = some (.int .i64 b') := fun m => (by_.keep (keepN n.has m.keep) id).cell 2
      go_big_quiet_op
      exact hK _ rfl
    · kernel_rfl
    refine shM_step rfl rfl rfl (by rfl) (by rfl) ?_
    apply Exists.intro
    refine ⟨fun n K hK => ?_, ?_, ?_⟩
    · go_big_quiet_op
      apply Exists.intro
      refine ⟨fun m => ?_, ?_⟩
      · go_at_call 14
        exact kept_of (show_gen op' a' b' V _ hV.out hI.out.2.1 hI.out.2.2 (hL.out.keep (keepN gK (keepN n.has m.keep))))
      · exact hK _ rfl
    · kernel_rfl
    refine shM_step rfl rfl rfl (by rfl) (by rfl) ?_
    apply Exists.intro
    refine ⟨fun n K hK => ?_, ?_, ?_⟩
    · go_big_quiet_op
      exact hK _ rfl
    · kernel_rfl
    refine shM_step rfl rfl rfl (by rfl) (by rfl) ?_
    apply Exists.intro
    refine ⟨fun n K hK => ?_, ?_, ?_⟩
    · go_big_quiet_op
      exact hK _ rfl
    · kernel_rfl
    refine shM_step rfl rfl rfl (by rfl) (by rfl) ?_
    apply Exists.intro
    refine ⟨fun n K hK => ?_, ?_, ?_⟩
    · go_big_quiet_op
      exact hK _ rfl
    · kernel_rfl
    refine shM_step rfl rfl rfl (by rfl) (by rfl) ?_
    apply Exists.intro
    refine ⟨fun n K hK => ?_, ?_, ?_⟩
    · go_big_quiet_op
      exact hK _ rfl
    · kernel_rfl
    refine shM_step rfl rfl rfl (by rfl) (by rfl) ?_
    apply Exists.intro
    refine ⟨fun n K hK => ?_, ?_, ?_⟩
    · go_big_quiet_op
      exact hK _ rfl
    · kernel_rfl
    refine shM_step rfl rfl rfl (by rfl) (by rfl) ?_
    apply Exists.intro
    refine ⟨fun n K hK => ?_, ?_, ?_⟩
    · go_big_quiet_op
      exact hK _ rfl
    · kernel_rfl
    refine shM_step rfl rfl rfl (by rfl) (by rfl) ?_
    apply Exists.intro
    refine ⟨fun n K hK => ?_, ?_, ?_⟩
    · go_big_quiet_op
      apply Exists.intro
      refine ⟨fun m => ?_, ?_⟩
      · go_at_call 15
        exact kept_of (prefix_gen T S _ _ hp.out)
      · exact hK _ rfl
    · kernel_rfl
    refine shM_step rfl rfl rfl (by rfl) (by rfl) ?_
    apply Exists.intro
    refine ⟨fun n K hK => ?_, ?_, ?_⟩
    · have x0 : ∀ m : KW n.w, m.w.cell? ⟨w.heap.size, 0, none⟩ = some (.int .i64 op) := fun m => (bx.keep (keepN n.has m.keep) id).cell 0
      have x1 : ∀ m : KW n.w, m.w.cell? ⟨w.heap.size, 1, none⟩ = some (.int .i64 a) := fun m => (bx.keep (keepN n.has m.keep) id).cell 1
      have x2 : ∀ m : KW n.w, m.w.cell? ⟨w.heap.size, 2, none⟩ = some (.int .i64 b) := fun m => (bx.keep (keepN n.has m.keep) id).cell 2
      go_big_quiet_op
      exact hK _ rfl
    · kernel_rfl
    refine shM_step rfl rfl rfl (by rfl) (by rfl) ?_
    apply Exists.intro
    refine ⟨fun n K hK => ?_, ?_, ?_⟩
    · have y0 : ∀ m : KW n.w, m.w.cell? ⟨w.heap.size + 1, 0, none⟩ = some (.int .i64 op') := fun m => (by_.keep (keepN n.has m.keep) id).cell 0
      have y1 : ∀ m : KW n.w, m.w.cell? ⟨w.heap.size + 1, 1, none⟩ = some (.int .i64 a') := fun m => (by_.keep (keepN n.has m.keep) id).cell 1
      have y2 : ∀ m : KW n.w, m.w.cell? ⟨w.heap.size + 1, 2, none⟩ = some (.int .i64 b') := fun m => (by_.keep (keepN n.has m.keep) id).cell 2
      go_big_quiet_op
      exact hK _ rfl
    · kernel_rfl
    refine shM_step rfl rfl rfl (by rfl) (by rfl) ?_
    apply Exists.intro
    refine ⟨fun n K hK => ?_, ?_, ?_⟩
    · go_big_quiet_op
      exact hK _ rfl
    · kernel_rfl
    refine shM_step rfl rfl rfl (by rfl) (by rfl) ?_
    apply Exists.intro
    refine ⟨fun n K hK => ?_, ?_, ?_⟩
    · go_big_quiet_op
      exact hK _ rfl
    · kernel_rfl
    refine shM_step rfl rfl rfl (by rfl) (by rfl) ?_
    apply Exists.intro
    refine ⟨fun n K hK => ?_, ?_, ?_⟩
    · go_big_quiet_op
      exact hK _ rfl
    · kernel_rfl
    refine shM_step rfl rfl rfl (by rfl) (by rfl) ?_
    apply Exists.intro
    refine ⟨fun n K hK => ?_, ?_, ?_⟩
    · go_big_quiet_op
      exact hK _ rfl
    · kernel_rfl
    refine shM_nil (fun n => ?_)
    have k5 := n.has
    generalize n.w = w5 at k5 ⊢
    go_wp2
    go_ret
    exact ⟨rfl, keepN gK k5⟩

set_option maxRecDepth 100000 in
set_option maxHeartbeats 4000000 in
theorem unlike_f (op a b op' a' b' : Int) (w : World) (hL : Hid (LaidO w)) (hI : Hid ((I64 a ∧ I64 b) ∧ I64 a' ∧ I64 b')) (hx : chk op a b = 0) (hy : chk op' a' b' = 0) (S T : ByteArray) (hS : Hid (str (encI op a b) = S)) (hT : Hid (str (encI op' a' b') = T)) (U V : ByteArray) (hU : Hid (str (showI op a b) = U)) (hV : Hid (str (showI op' a' b') = V)) (q1 : (S.toList == T.toList) = false) (q2 : (U.toList == V.toList) = false) (hp : Hid (Lib.hasPrefix T.data.toList S.data.toList = false)) (e0 : (op == op') = true) (e1 : (a == a') = true) (e2 : (b == b') = false) :
    Calls Tryd.prog 4 #[instV op a b, instV op' a' b'] w fun e w' => e = .returned (.bool true) ∧ Keep NoB w w' := by
  have HX := Lib.hid hx
  have HY := Lib.hid hy
  clear hx hy
  have bx0 := (Blk.new w 23 #[.int .i64 op, .int .i64 a, .int .i64 b]).alloc (.cells #[.int .i64 op', .int .i64 a', .int .i64 b'] 23)
  have by0 := Blk.new (w.alloc (.cells #[.int .i64 op, .int .i64 a, .int .i64 b] 23)) 23 #[.int .i64 op', .int .i64 a', .int .i64 b']
  rw [World.size_alloc] at by0
  have gK := ((Keep.refl NoB w).alloc (.cells #[.int .i64 op, .int .i64 a, .int .i64 b] 23)).alloc (.cells #[.int .i64 op', .int .i64 a', .int .i64 b'] 23)
  go_enter Tryd.func4, Tryd.ntmps4
  go_wp2_with fail
  refine (alive_any _ (hL.out.keep gK)).mono ?_
  rintro e w1 ⟨rfl, k1⟩
  have bx := bx0.keep k1 id
  have by_ := by0.keep k1 id
  replace gK := keepN gK k1
  clear bx0 by0 k1
  go_wp2_with fail
  · skip
    refine wp_region_sh ((0, false) :: (1, false) :: (2, false) :: (3, false) :: (4, false) :: (5, false) :: []) (fun w' => Keep NoB w1 w') (by kernel_rfl) (by kernel_rfl) (by rfl) (by kernel_rfl) (stable_keep w1) (Keep.refl NoB w1).drew ?_
    refine shM_step rfl rfl rfl (by rfl) (by rfl) ?_
    apply Exists.intro
    refine ⟨fun n K hK => ?_, ?_, ?_⟩
    · have x0 : ∀ m : KW n.w, m.w.cell? ⟨w.heap.size, 0, none⟩ = some (.int .i64 op) := fun m => (bx.keep (keepN n.has m.keep) id).cell 0
      have x1 : ∀ m : KW n.w, m.w.cell? ⟨w.heap.size, 1, none⟩ = some (.int .i64 a) := fun m => (bx.keep (keepN n.has m.keep) id).cell 1
      have x2 : ∀ m : KW n.w, m.w.cell? ⟨w.heap.size, 2, none⟩ = some (.int .i64 b) := fun m => (bx.keep (keepN n.has m.keep) id).cell 2
      go_big_quiet_op
      exact hK _ rfl
    · kernel_rfl
    refine shM_step rfl rfl rfl (by rfl) (by rfl) ?_
    apply Exists.intro
    refine ⟨fun n K hK => ?_, ?_, ?_⟩
    · go_big_quiet_op
      apply Exists.intro
      refine ⟨fun m => ?_, ?_⟩
      · go_at_call 13
        exact kept_of (bytes_gen op a b S _ hS.out hI.out.1.1 hI.out.1.2)
      · exact hK _ rfl
    · kernel_rfl
    refine shM_step rfl rfl rfl (by rfl) (by rfl) ?_
    apply Exists.intro
    refine ⟨fun n K hK => ?_, ?_, ?_⟩
    · have y0 : ∀ m : KW n.w, m.w.cell? ⟨w.heap.size + 1, 0, none⟩ = some (.int .i64 op') := fun m => (by_.keep (keepN n.has m.keep) id).cell 0
      have y1 : ∀ m : KW n.w, m.w.cell? ⟨w.heap.size + 1, 1, none⟩ = some (.int .i64 a') := fun m => (by_.keep (keepN n.has m.keep) id).cell 1
      have y2 : ∀ m : KW n.w, m.w.cell? ⟨w.heap.size + 1, 2, none⟩ = some (.int .i64 b') := fun m => (by_.keep (keepN n.has m.keep) id).cell 2
      go_big_quiet_op
      exact hK _ rfl
    · kernel_rfl
    refine shM_step rfl rfl rfl (by rfl) (by rfl) ?_
    apply Exists.intro
    refine ⟨fun n K hK => ?_, ?_, ?_⟩
    · go_big_quiet_op
      apply Exists.intro
      refine ⟨fun m => ?_, ?_⟩
      · go_at_call 13
        exact kept_of (bytes_gen op' a' b' T _ hT.out hI.out.2.1 hI.out.2.2)
      · exact hK _ rfl
    · kernel_rfl
    refine shM_step rfl rfl rfl (by rfl) (by rfl) ?_
    apply Exists.intro
    refine ⟨fun n K hK => ?_, ?_, ?_⟩
    · go_big_quiet_op
      exact hK _ rfl
    · kernel_rfl
    refine shM_step rfl rfl rfl (by rfl) (by rfl) ?_
    apply Exists.intro
    refine ⟨fun n K hK => ?_, ?_, ?_⟩
    · go_big_quiet_op
      exact hK _ rfl
    · kernel_rfl
    refine shM_nil (fun n => ?_)
    have k2 := n.has
    generalize n.w = w2 at k2 ⊢
    have bx2 := bx.keep k2 id
    have by2 := by_.keep k2 id
    replace gK := keepN gK k2
    have x0 : w2.cell? ⟨w.heap.size, 0, none⟩ = some (.int .i64 op) := bx2.cell 0
    have x1 : w2.cell? ⟨w.heap.size, 1, none⟩ = some (.int .i64 a) := bx2.cell 1
    have x2 : w2.cell? ⟨w.heap.size, 2, none⟩ = some (.int .i64 b) := bx2.cell 2
    clear k2 bx by_
    go_wp2_with fail
    refine (check_gen op a b 0 _ HX.out).mono ?_
    rintro e w3 ⟨rfl, k3⟩
    have bx := bx2.keep k3 id
    have by_ := by2.keep k3 id
    replace gK := keepN gK k3
    clear k3 bx2 by2 x0 x1 x2
    have y0 : w3.cell? ⟨w.heap.size + 1, 0, none⟩ = some (.int .i64 op') := by_.cell 0
    have y1 : w3.cell? ⟨w.heap.size + 1, 1, none⟩ = some (.int .i64 a') := by_.cell 1
    have y2 : w3.cell? ⟨w.heap.size + 1, 2, none⟩ = some (.int .i64 b') := by_.cell 2
    go_wp2_with fail
    refine (check_gen op' a' b' 0 _ HY.out).mono ?_
    rintro e w4 ⟨rfl, k4⟩
    have bx4 := bx.keep k4 id
    have by4 := by_.keep k4 id
    replace gK := keepN gK k4
    clear k4 bx by_ y0 y1 y2
    have bx := bx4
    have by_ := by4
    clear bx4 by4
    go_wp2_with fail
    refine wp_region_sh ((0, false) :: (1, false) :: (2, false) :: (3, false) :: (4, false) :: (5, false) :: (6, false) :: (7, false) :: (8, false) :: (9, false) :: (10, false) :: (11, false) :: (12, false) :: (13, false) :: (14, false) :: (15, false) :: (16, false) :: (17, false) :: (18, false) :: (19, false) :: (20, false) :: (21, false) :: (22, false) :: (23, false) :: (24, false) :: (25, false) :: (26, false) :: (27, false) :: (28, false) :: (29, false) :: (30, false) :: []) (fun w' => Keep NoB w4 w') (by kernel_rfl) (by kernel_rfl) (by rfl) (by kernel_rfl) (stable_keep w4) (Keep.refl NoB w4).drew ?_
    refine shM_step rfl rfl rfl (by rfl) (by rfl) ?_
    apply Exists.intro
    refine ⟨fun n K hK => ?_, ?_, ?_⟩
    · go_big_quiet_op
      exact hK _ rfl
    · kernel_rfl
    refine shM_step rfl rfl rfl (by rfl) (by rfl) ?_
    apply Exists.intro
    refine ⟨fun n K hK => ?_, ?_, ?_⟩
    · go_big_quiet_op
      exact hK _ rfl
    · kernel_rfl
    refine shM_step rfl rfl rfl (by rfl) (by rfl) ?_
    apply Exists.intro
    refine ⟨fun n K hK => ?_, ?_, ?_⟩
    · have x0 : ∀ m : KW n.w, m.w.cell? ⟨w.heap.size, 0, none⟩ = some (.int .i64 op) := fun m => (bx.keep (keepN n.has m.keep) id).cell 0
      have x1 : ∀ m : KW n.w, m.w.cell? ⟨w.heap.size, 1, none⟩ = some (.int .i64 a) := fun m => (bx.keep (keepN n.has m.keep) id).cell 1
      have x2 : ∀ m : KW n.w, m.w.cell? ⟨w.heap.size, 2, none⟩ = some (.int .i64 b) := fun m => (bx.keep (keepN n.has m.keep) id).cell 2
      go_big_quiet_op
      exact hK _ rfl
    · kernel_rfl
    refine shM_step rfl rfl rfl (by rfl) (by rfl) ?_
    apply Exists.intro
    refine ⟨fun n K hK => ?_, ?_, ?_⟩
    · have y0 : ∀ m : KW n.w, m.w.cell? ⟨w.heap.size + 1, 0, none⟩ = some (.int .i64 op') := fun m => (by_.keep (keepN n.has m.keep) id).cell 0
      have y1 : ∀ m : KW n.w, m.w.cell? ⟨w.heap.size + 1, 1, none⟩ = some (.int .i64 a') := fun m => (by_.keep (keepN n.has m.keep) id).cell 1
      have y2 : ∀ m : KW n.w, m.w.cell? ⟨w.heap.size + 1, 2, none⟩ = some (.int .i64 b') := fun m => (by_.keep (keepN n.has m.keep) id).cell 2
      go_big_quiet_op
      exact hK _ rfl
    · kernel_rfl
    refine shM_step rfl rfl rfl (by rfl) (by rfl) ?_
    apply Exists.intro
    refine ⟨fun n K hK => ?_, ?_, ?_⟩
    · go_big_quiet_op
      exact hK _ rfl
    · kernel_rfl
    refine shM_step rfl rfl rfl (by rfl) (by rfl) ?_
    apply Exists.intro
    refine ⟨fun n K hK => ?_, ?_, ?_⟩
    · go_big_quiet_op
      exact hK _ rfl
    · kernel_rfl
    refine shM_step rfl rfl rfl (by rfl) (by rfl) ?_
    apply Exists.intro
    refine ⟨fun n K hK => ?_, ?_, ?_⟩
    · go_big_quiet_op
      exact hK _ rfl
    · kernel_rfl
    refine shM_step rfl rfl rfl (by rfl) (by rfl) ?_
    apply Exists.intro
    refine ⟨fun n K hK => ?_, ?_, ?_⟩
    · go_big_quiet_op
      exact hK _ rfl
    · kernel_rfl
    refine shM_step rfl rfl rfl (by rfl) (by rfl) ?_
    apply Exists.intro
    refine ⟨fun n K hK => ?_, ?_, ?_⟩
    · go_big_quiet_op
      exact hK _ rfl
    · kernel_rfl
    refine shM_step rfl rfl rfl (by rfl) (by rfl) ?_
    apply Exists.intro
    refine ⟨fun n K hK => ?_, ?_, ?_⟩
    · go_big_quiet_op
      exact hK _ rfl
    · kernel_rfl
    refine shM_step rfl rfl rfl (by rfl) (by rfl) ?_
    apply Exists.intro
    refine ⟨fun n K hK => ?_, ?_, ?_⟩
    · go_big_quiet_op
      exact hK _ rfl
    · kernel_rfl
    refine shM_step rfl rfl rfl (by rfl) (by rfl) ?_
    apply Exists.intro
    refine ⟨fun n K hK => ?_, ?_, ?_⟩
    · have x0 : ∀ m : KW n.w, m.w.cell? ⟨w.heap.size, 0, none⟩ = some (.int .i64 op) := fun m => (bx.keep (keepN n.has m.keep) id).cell 0
      have x1 : ∀ m : KW n.w, m.w.cell? ⟨w.heap.size, 1, none⟩ = some (.int .i64 a) := fun m => (bx.keep (keepN n.has m.keep) id).cell 1
      have x2 : ∀ m : KW n.w, m.w.cell? ⟨w.heap.size, 2, none⟩ = some (.int .i64 b) := fun m => (bx.keep (keepN n.has m.keep) id).cell 2
      go_big_quiet_op
      exact hK _ rfl
    · kernel_rfl
    refine shM_step rfl rfl rfl (by rfl) (by rfl) ?_
    apply Exists.intro
    refine ⟨fun n K hK => ?_, ?_, ?_⟩
    · have y0 : ∀ m : KW n.w, m.w.cell? ⟨w.heap.size + 1, 0, none⟩ = some (.int .i64 op') := fun m => (by_.keep (keepN n.has m.keep) id).cell 0
      have y1 : ∀ m : KW n.w, m.w.cell? ⟨w.heap.size + 1, 1, none⟩ = some (.int .i64 a') := fun m => (by_.keep (keepN n.has m.keep) id).cell 1
      have y2 : ∀ m : KW n.w, m.w.cell? ⟨w.heap.size + 1, 2, none⟩ = some (.int .i64 b') := fun m => (by_.keep (keepN n.has m.keep) id).cell 2
      go_big_quiet_op
      exact hK _ rfl
    · kernel_rfl
    refine shM_step rfl rfl rfl (by rfl) (by rfl) ?_
    apply Exists.intro
    refine ⟨fun n K hK => ?_, ?_, ?_⟩
    · go_big_quiet_op
      exact hK _ rfl
    · kernel_rfl
    refine shM_step rfl rfl rfl (by rfl) (by rfl) ?_
    apply Exists.intro
    refine ⟨fun n K hK => ?_, ?_, ?_⟩
    · have x0 : ∀ m : KW n.w, m.w.cell? ⟨w.heap.size, 0, none⟩ = some (.int .i64 op) := fun m => (bx.keep (keepN n.has m.keep) id).cell 0
      have x1 : ∀ m : KW n.w, m.w.cell? ⟨w.heap.size, 1, none⟩ = some (.int .i64 a) := fun m => (bx.keep (keepN n.has m.keep) id).cell 1
      have x2 : ∀ m : KW n.w, m.w.cell? ⟨w.heap.size, 2, none⟩ = some (.int .i64 b) := fun m => (bx.keep (keepN n.has m.keep) id).cell 2
      go_big_quiet_op
      exact hK _ rfl
    · kernel_rfl
    refine shM_step rfl rfl rfl (by rfl) (by rfl) ?_
    apply Exists.intro
    refine ⟨fun n K hK => ?_, ?_, ?_⟩
    · go_big_quiet_op
      apply Exists.intro
      refine ⟨fun m => ?_, ?_⟩
      · go_at_call 14
        exact kept_of (show_gen op a b U _ hU.out hI.out.1.1 hI.out.1.2 (hL.out.keep (keepN gK (keepN n.has m.keep))))
      · exact hK _ rfl
    · kernel_rfl
    refine shM_step rfl rfl rfl (by rfl) (by rfl) ?_
    apply Exists.intro
    refine ⟨fun n K hK => ?_, ?_, ?_⟩
    · have y0 : ∀ m : KW n.w, m.w.cell? ⟨w.heap.size + 1, 0, none⟩ = some (.int .i64 op') := fun m => (by_.keep (keepN n.has m.keep) id).cell 0
      have y1 : ∀ m : KW n.w, m.w.cell? ⟨w.heap.size + 1, 1, none⟩ = some (.int .i64 a') := fun m => (by_.keep (keepN n.has m.keep) id).cell 1
      have y2 : ∀ m : KW n.w, m.w.cell? ⟨w.heap.size + 1, 2, none⟩ = some (.int .i64 b') := fun m => (by_.keep (keepN n.has m.keep) id).cell 2
      go_big_quiet_op
      exact hK _ rfl
    · kernel_rfl
    refine shM_step rfl rfl rfl (by rfl) (by rfl) ?_
    apply Exists.intro
    refine ⟨fun n K hK => ?_, ?_, ?_⟩
    · go_big_quiet_op
      apply Exists.intro
      refine ⟨fun m => ?_, ?_⟩
      · go_at_call 14
        exact kept_of (show_gen op' a' b' V _ hV.out hI.out.2.1 hI.out.2.2 (hL.out.keep (keepN gK (keepN n.has m.keep))))
      · exact hK _ rfl
    · kernel_rfl
    refine shM_step rfl rfl rfl (by rfl) (by rfl) ?_
    apply Exists.intro
    refine ⟨fun n K hK => ?_, ?_, ?_⟩
    · go_big_quiet_op
      exact hK _ rfl
    · kernel_rfl
    refine shM_step rfl rfl rfl (by rfl) (by rfl) ?_
    apply Exists.intro
    refine ⟨fun n K hK => ?_, ?_, ?_⟩
    · go_big_quiet_op
      exact hK _ rfl
    · kernel_rfl
    refine shM_step rfl rfl rfl (by rfl) (by rfl) ?_
    apply Exists.intro
    refine ⟨fun n K hK => ?_, ?_, ?_⟩
    · go_big_quiet_op
      exact hK _ rfl
    · kernel_rfl
    refine shM_step rfl rfl rfl (by rfl) (by rfl) ?_
    apply Exists.intro
    refine ⟨fun n K hK => ?_, ?_, ?_⟩
    · go_big_quiet_op
      exact hK _ rfl
    · kernel_rfl
    refine shM_step rfl rfl rfl (by rfl) (by rfl) ?_
    apply Exists.intro
    refine ⟨fun n K hK => ?_, ?_, ?_⟩
    · go_big_quiet_op
      exact hK _ rfl
    · kernel_rfl
    refine shM_step rfl rfl rfl (by rfl) (by rfl) ?_
    apply Exists.intro
    refine ⟨fun n K hK => ?_, ?_, ?_⟩
    · go_big_quiet_op
      exact hK _ rfl
    · kernel_rfl
    refine shM_step rfl rfl rfl (by rfl) (by rfl) ?_
    apply Exists.intro
    refine ⟨fun n K hK => ?_, ?_, ?_⟩
    · go_big_quiet_op
      apply Exists.intro
      refine ⟨fun m => ?_, ?_⟩
      · go_at_call 15
        exact kept_of (prefix_gen T S _ _ hp.out)
      · exact hK _ rfl
    · kernel_rfl
    refine shM_step rfl rfl rfl (by rfl) (by rfl) ?_
    apply Exists.intro
    refine ⟨fun n K hK => ?_, ?_, ?_⟩
    · have x0 : ∀ m : KW n.w, m.w.cell? ⟨w.heap.size, 0, none⟩ = some (.int .i64 op) := fun m => (bx.keep (keepN n.has m.keep) id).cell 0
      have x1 : ∀ m : KW n.w, m.w.cell? ⟨w.heap.size, 1, none⟩ = some (.int .i64 a) := fun m => (bx.keep (keepN n.has m.keep) id).cell 1
      have x2 : ∀ m : KW n.w, m.w.cell? ⟨w.heap.size, 2, none⟩ = some (.int .i64 b) := fun m => (bx.keep (keepN n.has m.keep) id).cell 2
      go_big_quiet_op
      exact hK _ rfl
    · kernel_rfl
    refine shM_step rfl rfl rfl (by rfl) (by rfl) ?_
    apply Exists.intro
    refine ⟨fun n K hK => ?_, ?_, ?_⟩
    · have y0 : ∀ m : KW n.w, m.w.cell? ⟨w.heap.size + 1, 0, none⟩ = some (.int .i64 op') := fun m => (by_.keep (keepN n.has m.keep) id).cell 0
      have y1 : ∀ m : KW n.w, m.w.cell? ⟨w.heap.size + 1, 1, none⟩ = some (.int .i64 a') := fun m => (by_.keep (keepN n.has m.keep) id).cell 1
      have y2 : ∀ m : KW n.w, m.w.cell? ⟨w.heap.size + 1, 2, none⟩ = some (.int .i64 b') := fun m => (by_.keep (keepN n.has m.keep) id).cell 2
      go_big_quiet_op
      exact hK _ rfl
    · kernel_rfl
    refine shM_step rfl rfl rfl (by rfl) (by rfl) ?_
    apply Exists.intro
    refine ⟨fun n K hK => ?_, ?_, ?_⟩
    · go_big_quiet_op
      exact hK _ rfl
    · kernel_rfl
    refine shM_step rfl rfl rfl (by rfl) (by rfl) ?_
    apply Exists.intro
    refine ⟨fun n K hK => ?_, ?_, ?_⟩
    · go_big_quiet_op
      exact hK _ rfl
    · kernel_rfl
    refine shM_step rfl rfl rfl (by rfl) (by rfl) ?_
    apply Exists.intro
    refine ⟨fun n K hK => ?_, ?_, ?_⟩
    · go_big_quiet_op
      exact hK _ rfl
    · kernel_rfl
    refine shM_step rfl rfl rfl (by rfl) (by rfl) ?_
    apply Exists.intro
    refine ⟨fun n K hK => ?_, ?_, ?_⟩
    · go_big_quiet_op
      exact hK _ rfl
    · kernel_rfl
    refine shM_nil (fun n => ?_)
    have k5 := n.has
    generalize n.w = w5 at k5 ⊢
    go_wp2
    go_ret
    exact ⟨rfl, keepN gK k5⟩

theorem chk_no {op a b : Int} (h : okI op a b = false) : chk op a b = 40 := by unfold chk; rw [if_neg (by rw [h]; decide)]
theorem chk_ok {op a b : Int} (h : okI op a b = true) : chk op a b = 0 := by unfold chk; rw [if_pos h]
theorem enc_no {op a b : Int} (h : okI op a b = false) : encI op a b = [] := by unfold encI; rw [if_neg (by rw [h]; decide)]
theorem enc_ok {op a b : Int} (h : okI op a b = true) : encI op a b = bytesI op a b := by unfold encI; rw [if_pos h]
theorem shw_ok {op a b : Int} (h : okI op a b = true) : showI op a b = textI op a b := by unfold showI; rw [if_pos h]

theorem unlike_walk (op a b op' a' b' : Int) (w : World) (hL : LaidO w) (ha : I64 a) (hb : I64 b) (ha' : I64 a') (hb' : I64 b') :
    Calls Tryd.prog 4 #[instV op a b, instV op' a' b'] w fun e w' => e = .returned (.bool true) ∧ Keep NoB w w' := by
  have hI : Hid ((I64 a ∧ I64 b) ∧ I64 a' ∧ I64 b') := ⟨⟨ha, hb⟩, ha', hb'⟩
  cases hx : okI op a b
  · exact unlike_a op a b op' a' b' w hL hI (chk_no hx) _ _ rfl rfl (by rw [str_toList, enc_no hx]; rfl)
  · have hne : encI op a b ≠ [] := by rw [enc_ok hx]; exact bytes_ne hx
    cases hy : okI op' a' b'
    · exact unlike_b op a b op' a' b' w hL hI (chk_ok hx) (chk_no hy) _ _ rfl rfl (by rw [str_toList]; simpa using hne)
    · by_cases he : op = op' ∧ a = a' ∧ b = b'
      · obtain ⟨rfl, rfl, rfl⟩ := he
        exact unlike_c op a b op a b w hL hI (chk_ok hx) (chk_ok hx) _ _ rfl rfl _ _ rfl rfl (by simp) (by simp) ((prefix_iff _ _).2 ⟨[], by simp⟩) (by simp) (by simp) (by simp)
      · have q1 : ((str (encI op a b)).toList == (str (encI op' a' b')).toList) = false := by
          rw [str_toList, str_toList, beq_eq_false_iff_ne, enc_ok hx, enc_ok hy]
          intro h
          exact he (bytes_cancel (s := []) (t := []) hx hy (by simpa using h)).1
        have q2 : ((str (showI op a b)).toList == (str (showI op' a' b')).toList) = false := by
          rw [str_toList, str_toList, beq_eq_false_iff_ne, shw_ok hx, shw_ok hy]
          intro h
          exact he (text_inj hx hy h)
        have hp : Lib.hasPrefix (str (encI op' a' b')).data.toList (str (encI op a b)).data.toList = false := by
          rw [Bool.eq_false_iff]
          intro h
          obtain ⟨r, h⟩ := (prefix_iff _ _).1 h
          have h2 : encI op' a' b' = encI op a b ++ r := h
          rw [enc_ok hx, enc_ok hy] at h2
          exact he (bytes_cancel (s := r) (t := []) hx hy (by simpa using h2.symm)).1
        by_cases e0 : op = op'
        · by_cases e1 : a = a'
          · have e2 : b ≠ b' := fun h => he ⟨e0, e1, h⟩
            exact unlike_f op a b op' a' b' w hL hI (chk_ok hx) (chk_ok hy) _ _ rfl rfl _ _ rfl rfl q1 q2 hp (by simpa using e0) (by simpa using e1) (by simpa using e2)
          · exact unlike_e op a b op' a' b' w hL hI (chk_ok hx) (chk_ok hy) _ _ rfl rfl _ _ rfl rfl q1 q2 hp (by simpa using e0) (by simpa using e1)
        · exact unlike_d op a b op' a' b' w hL hI (chk_ok hx) (chk_ok hy) _ _ rfl rfl _ _ rfl rfl q1 q2 hp (by simpa using e0)

end Go.Proofs.YtpkcjokkadfhcaaDoor.O
