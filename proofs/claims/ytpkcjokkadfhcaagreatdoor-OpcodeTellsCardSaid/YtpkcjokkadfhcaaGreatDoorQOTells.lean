/-
  OpcodeTells' walk: names, kinds, effects, ends, places and texts are the document's, and what is answered is new memory. Conditions: the listed package-level variables hold what their initialisers lay; numbers fit an int64.
-/
import Derived.Test.YtpkcjokkadfhcaaGreatDoorQ15
import Derived.Test.YtpkcjokkadfhcaaGreatDoorQ14
import Derived.Test.YtpkcjokkadfhcaaGreatDoorQ9
import Derived.Test.YtpkcjokkadfhcaaGreatDoorQ3
namespace Go.Proofs.YtpkcjokkadfhcaaGreatDoor.O
open Go.RowKit

theorem readV_form {s : List UInt8} {v : Value} (h : ReadV s v) : ∃ x y z E, v = .tuple #[instV x y z, .int .i64 E] := by
  rcases h with ⟨op, a, b, _, _, rfl⟩ | ⟨_, rfl⟩
  · exact ⟨_, _, _, _, rfl⟩
  · exact ⟨_, _, _, _, rfl⟩
theorem own_rdI {w : World} {O : Nat → Prop} {A : Option Addr} {n c : Nat} {xs : List Value} (h : Own w 3 1 O (.slice A n c) n xs) : Rd w A xs := by
  obtain ⟨A', c', e, _, _, hR, _⟩ := h.form
  cases e
  exact hR
theorem ints_gen {w9 v9 : World} {A B : Option Addr} {l : List Int} {n c d : Nat} (h1 : Rd w9 A (ivs l)) (h2 : Rd w9 B (ivs l)) (hn : l.length = n) (hn2 : n ≤ 2) (hk : Keep NoB w9 v9) :
    Calls Tryz.prog 26 #[.slice A n c, .slice B n d] v9 fun e w' => e = .returned (.bool true) ∧ Keep NoB v9 w' :=
  W.ints_any A B l l n n c d v9 (h1.keepN hk) (h2.keepN hk) hn hn (by omega) (by omega) true (by show _ = _; simp)
theorem keepBrT {w w1 w2 : World} {br : Nat} (h : Keep NoB w w1) (h2 : Keep (fun k => k = br) w1 w2) (hbr : w.heap.size ≤ br) : Keep NoB w w2 := h.trans h2 (fun k e hl => by subst e; omega)
theorem typesL_two (t u a b : Int) : (typesL t u a b).length ≤ 2 := by
  unfold typesL
  split
  · simp
  · split <;> simp
theorem takes_two (op a b : Int) : (takesI op a b).length ≤ 2 := by
  unfold takesI
  split
  · exact typesL_two _ _ _ _
  · simp
theorem leaves_two (op a b : Int) : (leavesI op a b).length ≤ 2 := by
  unfold leavesI
  split
  · exact typesL_two _ _ _ _
  · simp

set_option maxRecDepth 100000 in
set_option maxHeartbeats 1000000 in
theorem tells_big (op0 op a b : Int) (S : ByteArray) (w : World) (h : 100 < S.size) :
    Calls Tryz.prog 4 #[.int .i64 op0, instV op a b, .string S] w fun e w' => e = .returned (.bool true) ∧ Keep NoB w w' := by
  have hq : decide ((100 : Int) < (S.size : Int)) = true := by rw [decide_eq_true_iff]; omega
  clear h
  go_enter Tryz.func4, Tryz.ntmps4
  go_wp2
  go_ret
  exact ⟨rfl, (Keep.refl NoB w).alloc _⟩

set_option maxRecDepth 100000 in
set_option maxHeartbeats 4000000 in
theorem tells_own (op0 op a b : Int) (S : ByteArray) (s : List UInt8) (w : World) (h : S.size ≤ 100) (N E ja jb : Int) (tl ll : List Int) (n m : Nat) (hn : Hid (tl.length = n)) (hm : Hid (ll.length = m)) (hn2 : n ≤ 2) (hm2 : m ≤ 2) (h0 : 0 < n) (fx : Bool) (to : Int) (go : Bool)
    (H1 : Hid (∀ w, Calls Tryz.prog 16 #[.string S] w fun e w' => e = .returned (.tuple #[.int .i64 N, .int .i64 E]) ∧ Keep NoB w w')) (H2 : Hid (∀ w, Calls Tryz.prog 17 #[.string S] w fun e w' => e = .returned (.tuple #[.int .i64 N, .int .i64 E]) ∧ Keep NoB w w'))
    (H3 : Hid (∀ w, Calls Tryz.prog 18 #[.int .i64 op0] w fun e w' => e = .returned (.tuple #[.int .i64 ja, .int .i64 jb]) ∧ Keep NoB w w')) (H4 : Hid (∀ w, Calls Tryz.prog 19 #[.int .i64 op0] w fun e w' => e = .returned (.tuple #[.int .i64 ja, .int .i64 jb]) ∧ w = w'))
    (H5 : Hid (∀ w, Calls Tryz.prog 20 #[instV op a b] w (EffR tl ll fx w))) (H6 : Hid (∀ w, Calls Tryz.prog 21 #[instV op a b] w (REff tl ll fx w)))
    (H7 : Hid (∀ w, Calls Tryz.prog 22 #[instV op a b] w fun e w' => e = .returned (.tuple #[.int .i64 to, .bool go]) ∧ Keep NoB w w')) (H8 : Hid (∀ w, Calls Tryz.prog 23 #[instV op a b] w fun e w' => e = .returned (.tuple #[.int .i64 to, .bool go]) ∧ Keep NoB w w'))
    (H9 : Hid (∀ w', Keep NoB w w' → Calls Tryz.prog 24 #[.string S] w' fun e w'' => ∃ v, e = .returned v ∧ ReadV s v ∧ Keep NoB w' w'')) (H10 : Hid (∀ w, Calls Tryz.prog 25 #[.string S] w fun e w' => ∃ v, e = .returned v ∧ ReadV s v ∧ Keep NoB w w'))
    (X Y : ByteArray) (en : Bool) (G1 : Hid (∀ w, Calls Tryz.prog 27 #[.int .i64 op0] w fun e w' => e = .returned (.string X) ∧ Keep NoB w w')) (G2 : Hid (∀ w, Calls Tryz.prog 28 #[.int .i64 op0] w fun e w' => e = .returned (.string X) ∧ Keep NoB w w')) (G3 : Hid (∀ w, Calls Tryz.prog 29 #[instV op a b] w fun e w' => e = .returned (.bool en) ∧ Keep NoB w w')) (G4 : Hid (∀ w, Calls Tryz.prog 30 #[instV op a b] w fun e w' => e = .returned (.bool en) ∧ Keep NoB w w'))
    (G5 : Hid (∀ w', Keep NoB w w' → Calls Tryz.prog 31 #[instV op a b] w' fun e w'' => e = .returned (.string Y) ∧ Keep NoB w' w'')) (G6 : Hid (∀ w, Calls Tryz.prog 32 #[instV op a b] w fun e w' => e = .returned (.string Y) ∧ Keep NoB w w')) :
    Calls Tryz.prog 4 #[.int .i64 op0, instV op a b, .string S] w fun e w' => e = .returned (.bool true) ∧ Keep NoB w w' := by
  have hq : decide ((100 : Int) < (S.size : Int)) = false := by rw [decide_eq_false_iff_not]; omega
  clear h
  have qX : (X.toList == X.toList) = true := by simp
  have qY : (Y.toList == Y.toList) = true := by simp
  have bx := Blk.new w 23 #[.int .i64 op, .int .i64 a, .int .i64 b]
  have gK := (Keep.refl NoB w).alloc (.cells #[.int .i64 op, .int .i64 a, .int .i64 b] 23)
  go_enter Tryz.func4, Tryz.ntmps4
  go_wp2_with fail
  refine (H1.out _).mono ?_
  rintro e w1 ⟨rfl, k1⟩
  replace bx := bx.keep k1 id
  replace gK := keepN gK k1
  clear k1
  go_wp2_with fail
  refine (H2.out _).mono ?_
  rintro e w1 ⟨rfl, k1⟩
  replace bx := bx.keep k1 id
  replace gK := keepN gK k1
  clear k1
  go_wp2_with fail
  refine (H3.out _).mono ?_
  rintro e w1 ⟨rfl, k1⟩
  replace bx := bx.keep k1 id
  replace gK := keepN gK k1
  clear k1
  go_wp2_with fail
  refine (H4.out _).mono ?_
  rintro e w1 ⟨rfl, rfl⟩
  obtain ⟨x0, x1, x2⟩ := blk_inst bx
  have hlt0 := bx.lt
  go_wp2_with fail
  refine (H5.out _).mono ?_
  rintro e w2 ⟨A, c, B, d, rfl, hOt, hOl, k1⟩
  simp only [hn.out, hm.out] at hOt hOl ⊢
  replace bx := bx.keep k1 id
  have hlt := bx.lt
  replace gK := keepN gK k1
  clear k1 x0 x1 x2
  have rl := own_rdI hOl
  clear hOl
  obtain ⟨g, rfl, hg1, hg2⟩ : ∃ g, A = some ⟨g, 0, none⟩ ∧ w.heap.size < g ∧ g < w2.heap.size := by
    rcases hOt.1.2 with ⟨e, hz⟩ | ⟨g, cap, cur, e, _, _⟩
    · omega
    · injection e with e _ _
      subst e
      have h1 := hOt.2 g rfl
      have h2 := (hOt.1.lt g rfl).2
      exact ⟨g, rfl, by unfold Fresh at h1; omega, h2⟩
  have hro := hOt.1
  clear hOt
  obtain ⟨x0, x1, x2⟩ := blk_inst bx
  go_wp2_with fail
  refine (H6.out _).mono ?_
  rintro e w3 ⟨Aw, cw, Bw, dw, rfl, ⟨rtw, hAw⟩, ⟨rlw, _⟩, k1⟩
  simp only [hn.out, hm.out]
  replace bx := bx.keep k1 id
  replace gK := keepN gK k1
  replace rl := rl.keepN k1
  replace hro := ownsRow_keep hro k1 (fun _ _ => id)
  clear k1 x0 x1 x2
  obtain ⟨x0, x1, x2⟩ := blk_inst bx
  go_wp2_with fail
  refine (H7.out _).mono ?_
  rintro e w1 ⟨rfl, k1⟩
  replace bx := bx.keep k1 id
  replace rl := rl.keepN k1
  replace rtw := rtw.keepN k1
  replace rlw := rlw.keepN k1
  replace hro := ownsRow_keep hro k1 (fun _ _ => id)
  replace gK := keepN gK k1
  clear k1
  clear x0 x1 x2
  obtain ⟨x0, x1, x2⟩ := blk_inst bx
  go_wp2_with fail
  refine (H8.out _).mono ?_
  rintro e w1 ⟨rfl, k1⟩
  replace bx := bx.keep k1 id
  replace rl := rl.keepN k1
  replace rtw := rtw.keepN k1
  replace rlw := rlw.keepN k1
  replace hro := ownsRow_keep hro k1 (fun _ _ => id)
  replace gK := keepN gK k1
  clear k1
  clear x0 x1 x2
  go_wp2_with fail
  refine (H9.out _ gK).mono ?_
  rintro e w6 ⟨v, rfl, hv, k1⟩
  obtain ⟨ry, rya, ryb, re, rfl⟩ := readV_form hv
  have HV := Lib.hid hv
  clear hv
  replace k1 := k1.alloc (.cells #[.int .i64 ry, .int .i64 rya, .int .i64 ryb] 23)
  have by_ := Blk.new w6 23 #[.int .i64 ry, .int .i64 rya, .int .i64 ryb]
  replace bx := bx.keep k1 id
  replace gK := keepN gK k1
  replace rl := rl.keepN k1
  replace rtw := rtw.keepN k1
  replace rlw := rlw.keepN k1
  replace hro := ownsRow_keep hro k1 (fun _ _ => id)
  clear k1
  go_wp2_with fail
  refine (H10.out _).mono ?_
  rintro e w7 ⟨v, rfl, hv, k1⟩
  obtain rfl := readV_one hv HV.out
  clear hv
  replace k1 := k1.alloc (.cells #[.int .i64 ry, .int .i64 rya, .int .i64 ryb] 23)
  have bz := Blk.new w7 23 #[.int .i64 ry, .int .i64 rya, .int .i64 ryb]
  replace bx := bx.keep k1 id
  replace by_ := by_.keep k1 id
  replace gK := keepN gK k1
  replace rl := rl.keepN k1
  replace rtw := rtw.keepN k1
  replace rlw := rlw.keepN k1
  replace hro := ownsRow_keep hro k1 (fun _ _ => id)
  clear k1
  obtain ⟨w8, hw8⟩ : ∃ w8, w7.alloc (.cells #[.int .i64 ry, .int .i64 rya, .int .i64 ryb] 23) = w8 := ⟨_, rfl⟩
  rw [hw8] at bx by_ bz gK rl rtw rlw hro
  have HW := Lib.hid hw8
  clear hw8
  have rt : True → ∃ xs, Rd w8 (some ⟨g, 0, none⟩) xs := fun _ => ⟨_, own_rdI (O := fun _ => True) ⟨hro, fun _ _ => trivial⟩⟩
  have rt := own_rdI (O := fun _ => True) ⟨hro, fun _ _ => trivial⟩
  go_wp2_with fail
  rw [HW.out]
  refine (ints_gen (c := c) (d := cw) rt rtw hn.out hn2 (Keep.refl NoB w8)).mono ?_
  rintro e w9 ⟨rfl, k1⟩
  go_wp2_with fail
  refine (ints_gen (c := d) (d := dw) rl rlw hm.out hm2 k1).mono ?_
  rintro e w10 ⟨rfl, k2⟩
  replace k1 := keepN k1 k2
  replace bx := bx.keep k1 id
  replace by_ := by_.keep k1 id
  replace bz := bz.keep k1 id
  replace rtw := rtw.keepN k1
  replace gK := keepN gK k1
  replace hro := ownsRow_keep hro k1 (fun _ _ => id)
  clear k1 k2 rl rlw rt
  obtain ⟨y0, y1, y2⟩ := blk_inst by_
  obtain ⟨z0, z1, z2⟩ := blk_inst bz
  go_wp2
  go_loopw [145] (fun i wr => ∃ (k : Nat) (ys : List Value), k ≤ n ∧ i = .int .i64 (k : Int) ∧ wr.ownsRow 0 3 1 (.slice (some ⟨g, 0, none⟩) n c) n ys ∧ Keep (fun k => k = g) w10 wr) (fun i _ => n - (intOf i).toNat)
  case atStart => exact ⟨0, _, by omega, rfl, hro, Keep.refl _ _⟩
  case round =>
    obtain ⟨k, ys, hk, rfl, hrow, hKg⟩ := hrel
    clear y0 y1 y2 z0 z1 z2 hro
    by_cases hlt : k < n
    · have hyl : k < ys.length := by have := hrow.1; omega
      have c0 := hrow.cellAt k (by omega)
      rw [List.getElem?_eq_getElem hyl] at c0
      have f0 := hrow.frozenAt k
      have hst := (hrow.stored k (.int .i64 9)).1
      have hKg2 : Keep (fun k => k = g) w10 (wr.setCell ⟨g, k, none⟩ (.int .i64 9)) := hKg.setCell (fun _ => rfl) _
      clear hrow hKg
      go_wp2
      go_roundw
      case rel => exact ⟨k + 1, _, by omega, by go_num, hst, hKg2⟩
      case measure => simp [intOf]; omega
    · obtain rfl : k = n := by omega
      have bx := bx.keep hKg (fun e => by omega)
      have rtw := rtw.keep hKg (fun ad e he => by have := hAw ad e; omega)
      have gK := keepBrT gK hKg (by omega)
      clear hrow hKg
      obtain ⟨x0, x1, x2⟩ := blk_inst bx
      go_wp2_with fail
      refine (H5.out _).mono ?_
      rintro e v1 ⟨Ag, ca, Bg, da, rfl, hOg, _, k1⟩
      simp only [hn.out, hm.out] at hOg ⊢
      have rg := own_rdI hOg
      replace rtw := rtw.keepN k1
      replace bx := bx.keep k1 id
      replace gK := keepN gK k1
      clear k1 x0 x1 x2 hOg
      go_wp2_with fail
      refine wp_region_sh ((0, false) :: (1, false) :: (2, false) :: (3, false) :: (4, false) :: (5, false) :: (6, false) :: (7, false) :: (8, false) :: (9, false) :: (10, false) :: (11, false) :: (12, false) :: (13, false) :: (14, false) :: (15, false) :: (16, false) :: (17, false) :: (18, false) :: (19, false) :: (20, false) :: (21, false) :: (22, false) :: (23, false) :: (24, false) :: []) (fun w' => Keep NoB v1 w') (by kernel_rfl) (by kernel_rfl) (by rfl) (by kernel_rfl) (stable_keep v1) (Keep.refl NoB v1).drew ?_
      refine shM_step rfl rfl rfl (by rfl) (by rfl) ?_
      apply Exists.intro
      refine ⟨fun n_ K hK => ?_, ?_, ?_⟩
      · go_big_quiet_op
        exact hK _ rfl
      · kernel_rfl
      refine shM_step rfl rfl rfl (by rfl) (by rfl) ?_
      apply Exists.intro
      refine ⟨fun n_ K hK => ?_, ?_, ?_⟩
      · go_big_quiet_op
        exact hK _ rfl
      · kernel_rfl
      refine shM_step rfl rfl rfl (by rfl) (by rfl) ?_
      apply Exists.intro
      refine ⟨fun n_ K hK => ?_, ?_, ?_⟩
      · go_big_quiet_op
        apply Exists.intro
        refine ⟨fun m => ?_, ?_⟩
        · go_at_call 26
          exact kept_of (ints_gen (c := ca) (d := cw) rg rtw hn.out hn2 (keepN n_.has m.keep))
        · exact hK _ rfl
      · kernel_rfl
      refine shM_step rfl rfl rfl (by rfl) (by rfl) ?_
      apply Exists.intro
      refine ⟨fun n_ K hK => ?_, ?_, ?_⟩
      · go_big_quiet_op
        exact hK _ rfl
      · kernel_rfl
      refine shM_step rfl rfl rfl (by rfl) (by rfl) ?_
      apply Exists.intro
      refine ⟨fun n_ K hK => ?_, ?_, ?_⟩
      · go_big_quiet_op
        exact hK _ rfl
      · kernel_rfl
      refine shM_step rfl rfl rfl (by rfl) (by rfl) ?_
      apply Exists.intro
      refine ⟨fun n_ K hK => ?_, ?_, ?_⟩
      · go_big_quiet_op
        apply Exists.intro
        refine ⟨fun m => ?_, ?_⟩
        · go_at_call 27
          exact kept_of (G1.out _)
        · exact hK _ rfl
      · kernel_rfl
      refine shM_step rfl rfl rfl (by rfl) (by rfl) ?_
      apply Exists.intro
      refine ⟨fun n_ K hK => ?_, ?_, ?_⟩
      · go_big_quiet_op
        exact hK _ rfl
      · kernel_rfl
      refine shM_step rfl rfl rfl (by rfl) (by rfl) ?_
      apply Exists.intro
      refine ⟨fun n_ K hK => ?_, ?_, ?_⟩
      · go_big_quiet_op
        apply Exists.intro
        refine ⟨fun m => ?_, ?_⟩
        · go_at_call 28
          exact kept_of (G2.out _)
        · exact hK _ rfl
      · kernel_rfl
      refine shM_step rfl rfl rfl (by rfl) (by rfl) ?_
      apply Exists.intro
      refine ⟨fun n_ K hK => ?_, ?_, ?_⟩
      · go_big_quiet_op
        exact hK _ rfl
      · kernel_rfl
      refine shM_step rfl rfl rfl (by rfl) (by rfl) ?_
      apply Exists.intro
      refine ⟨fun n_ K hK => ?_, ?_, ?_⟩
      · go_big_quiet_op
        exact hK _ rfl
      · kernel_rfl
      refine shM_step rfl rfl rfl (by rfl) (by rfl) ?_
      apply Exists.intro
      refine ⟨fun n_ K hK => ?_, ?_, ?_⟩
      · go_big_quiet_op
        exact hK _ rfl
      · kernel_rfl
      refine shM_step rfl rfl rfl (by rfl) (by rfl) ?_
      apply Exists.intro
      refine ⟨fun n_ K hK => ?_, ?_, ?_⟩
      · have x0 : ∀ m : KW n_.w, m.w.cell? ⟨w.heap.size, 0, none⟩ = some (.int .i64 op) := fun m => (bx.keep (keepN n_.has m.keep) id).cell 0
        have x1 : ∀ m : KW n_.w, m.w.cell? ⟨w.heap.size, 1, none⟩ = some (.int .i64 a) := fun m => (bx.keep (keepN n_.has m.keep) id).cell 1
        have x2 : ∀ m : KW n_.w, m.w.cell? ⟨w.heap.size, 2, none⟩ = some (.int .i64 b) := fun m => (bx.keep (keepN n_.has m.keep) id).cell 2
        go_big_quiet_op
        exact hK _ rfl
      · kernel_rfl
      refine shM_step rfl rfl rfl (by rfl) (by rfl) ?_
      apply Exists.intro
      refine ⟨fun n_ K hK => ?_, ?_, ?_⟩
      · go_big_quiet_op
        apply Exists.intro
        refine ⟨fun m => ?_, ?_⟩
        · go_at_call 29
          exact kept_of (G3.out _)
        · exact hK _ rfl
      · kernel_rfl
      refine shM_step rfl rfl rfl (by rfl) (by rfl) ?_
      apply Exists.intro
      refine ⟨fun n_ K hK => ?_, ?_, ?_⟩
      · have x0 : ∀ m : KW n_.w, m.w.cell? ⟨w.heap.size, 0, none⟩ = some (.int .i64 op) := fun m => (bx.keep (keepN n_.has m.keep) id).cell 0
        have x1 : ∀ m : KW n_.w, m.w.cell? ⟨w.heap.size, 1, none⟩ = some (.int .i64 a) := fun m => (bx.keep (keepN n_.has m.keep) id).cell 1
        have x2 : ∀ m : KW n_.w, m.w.cell? ⟨w.heap.size, 2, none⟩ = some (.int .i64 b) := fun m => (bx.keep (keepN n_.has m.keep) id).cell 2
        go_big_quiet_op
        exact hK _ rfl
      · kernel_rfl
      refine shM_step rfl rfl rfl (by rfl) (by rfl) ?_
      apply Exists.intro
      refine ⟨fun n_ K hK => ?_, ?_, ?_⟩
      · go_big_quiet_op
        apply Exists.intro
        refine ⟨fun m => ?_, ?_⟩
        · go_at_call 30
          exact kept_of (G4.out _)
        · exact hK _ rfl
      · kernel_rfl
      refine shM_step rfl rfl rfl (by rfl) (by rfl) ?_
      apply Exists.intro
      refine ⟨fun n_ K hK => ?_, ?_, ?_⟩
      · go_big_quiet_op
        exact hK _ rfl
      · kernel_rfl
      refine shM_step rfl rfl rfl (by rfl) (by rfl) ?_
      apply Exists.intro
      refine ⟨fun n_ K hK => ?_, ?_, ?_⟩
      · go_big_quiet_op
        exact hK _ rfl
      · kernel_rfl
      refine shM_step rfl rfl rfl (by rfl) (by rfl) ?_
      apply Exists.intro
      refine ⟨fun n_ K hK => ?_, ?_, ?_⟩
      · go_big_quiet_op
        exact hK _ rfl
      · kernel_rfl
      refine shM_step rfl rfl rfl (by rfl) (by rfl) ?_
      apply Exists.intro
      refine ⟨fun n_ K hK => ?_, ?_, ?_⟩
      · have x0 : ∀ m : KW n_.w, m.w.cell? ⟨w.heap.size, 0, none⟩ = some (.int .i64 op) := fun m => (bx.keep (keepN n_.has m.keep) id).cell 0
        have x1 : ∀ m : KW n_.w, m.w.cell? ⟨w.heap.size, 1, none⟩ = some (.int .i64 a) := fun m => (bx.keep (keepN n_.has m.keep) id).cell 1
        have x2 : ∀ m : KW n_.w, m.w.cell? ⟨w.heap.size, 2, none⟩ = some (.int .i64 b) := fun m => (bx.keep (keepN n_.has m.keep) id).cell 2
        go_big_quiet_op
        exact hK _ rfl
      · kernel_rfl
      refine shM_step rfl rfl rfl (by rfl) (by rfl) ?_
      apply Exists.intro
      refine ⟨fun n_ K hK => ?_, ?_, ?_⟩
      · go_big_quiet_op
        apply Exists.intro
        refine ⟨fun m => ?_, ?_⟩
        · go_at_call 31
          exact kept_of (G5.out _ (keepN gK (keepN n_.has m.keep)))
        · exact hK _ rfl
      · kernel_rfl
      refine shM_step rfl rfl rfl (by rfl) (by rfl) ?_
      apply Exists.intro
      refine ⟨fun n_ K hK => ?_, ?_, ?_⟩
      · have x0 : ∀ m : KW n_.w, m.w.cell? ⟨w.heap.size, 0, none⟩ = some (.int .i64 op) := fun m => (bx.keep (keepN n_.has m.keep) id).cell 0
        have x1 : ∀ m : KW n_.w, m.w.cell? ⟨w.heap.size, 1, none⟩ = some (.int .i64 a) := fun m => (bx.keep (keepN n_.has m.keep) id).cell 1
        have x2 : ∀ m : KW n_.w, m.w.cell? ⟨w.heap.size, 2, none⟩ = some (.int .i64 b) := fun m => (bx.keep (keepN n_.has m.keep) id).cell 2
        go_big_quiet_op
        exact hK _ rfl
      · kernel_rfl
      refine shM_step rfl rfl rfl (by rfl) (by rfl) ?_
      apply Exists.intro
      refine ⟨fun n_ K hK => ?_, ?_, ?_⟩
      · go_big_quiet_op
        apply Exists.intro
        refine ⟨fun m => ?_, ?_⟩
        · go_at_call 32
          exact kept_of (G6.out _)
        · exact hK _ rfl
      · kernel_rfl
      refine shM_step rfl rfl rfl (by rfl) (by rfl) ?_
      apply Exists.intro
      refine ⟨fun n_ K hK => ?_, ?_, ?_⟩
      · go_big_quiet_op
        exact hK _ rfl
      · kernel_rfl
      refine shM_step rfl rfl rfl (by rfl) (by rfl) ?_
      apply Exists.intro
      refine ⟨fun n_ K hK => ?_, ?_, ?_⟩
      · go_big_quiet_op
        exact hK _ rfl
      · kernel_rfl
      refine shM_step rfl rfl rfl (by rfl) (by rfl) ?_
      apply Exists.intro
      refine ⟨fun n_ K hK => ?_, ?_, ?_⟩
      · go_big_quiet_op
        exact hK _ rfl
      · kernel_rfl
      refine shM_nil (fun n_ => ?_)
      have k5 := n_.has
      generalize n_.w = v2 at k5 ⊢
      go_wp2
      go_ret
      exact ⟨rfl, keepN gK k5⟩

set_option maxRecDepth 100000 in
set_option maxHeartbeats 4000000 in
theorem tells_nil (op0 op a b : Int) (S : ByteArray) (s : List UInt8) (w : World) (h : S.size ≤ 100) (N E ja jb : Int) (tl ll : List Int) (n m : Nat) (hn : Hid (tl.length = n)) (hm : Hid (ll.length = m)) (hn2 : n ≤ 2) (hm2 : m ≤ 2) (h0 : n = 0) (fx : Bool) (to : Int) (go : Bool)
    (H1 : Hid (∀ w, Calls Tryz.prog 16 #[.string S] w fun e w' => e = .returned (.tuple #[.int .i64 N, .int .i64 E]) ∧ Keep NoB w w')) (H2 : Hid (∀ w, Calls Tryz.prog 17 #[.string S] w fun e w' => e = .returned (.tuple #[.int .i64 N, .int .i64 E]) ∧ Keep NoB w w'))
    (H3 : Hid (∀ w, Calls Tryz.prog 18 #[.int .i64 op0] w fun e w' => e = .returned (.tuple #[.int .i64 ja, .int .i64 jb]) ∧ Keep NoB w w')) (H4 : Hid (∀ w, Calls Tryz.prog 19 #[.int .i64 op0] w fun e w' => e = .returned (.tuple #[.int .i64 ja, .int .i64 jb]) ∧ w = w'))
    (H5 : Hid (∀ w, Calls Tryz.prog 20 #[instV op a b] w (EffR tl ll fx w))) (H6 : Hid (∀ w, Calls Tryz.prog 21 #[instV op a b] w (REff tl ll fx w)))
    (H7 : Hid (∀ w, Calls Tryz.prog 22 #[instV op a b] w fun e w' => e = .returned (.tuple #[.int .i64 to, .bool go]) ∧ Keep NoB w w')) (H8 : Hid (∀ w, Calls Tryz.prog 23 #[instV op a b] w fun e w' => e = .returned (.tuple #[.int .i64 to, .bool go]) ∧ Keep NoB w w'))
    (H9 : Hid (∀ w', Keep NoB w w' → Calls Tryz.prog 24 #[.string S] w' fun e w'' => ∃ v, e = .returned v ∧ ReadV s v ∧ Keep NoB w' w'')) (H10 : Hid (∀ w, Calls Tryz.prog 25 #[.string S] w fun e w' => ∃ v, e = .returned v ∧ ReadV s v ∧ Keep NoB w w'))
    (X Y : ByteArray) (en : Bool) (G1 : Hid (∀ w, Calls Tryz.prog 27 #[.int .i64 op0] w fun e w' => e = .returned (.string X) ∧ Keep NoB w w')) (G2 : Hid (∀ w, Calls Tryz.prog 28 #[.int .i64 op0] w fun e w' => e = .returned (.string X) ∧ Keep NoB w w')) (G3 : Hid (∀ w, Calls Tryz.prog 29 #[instV op a b] w fun e w' => e = .returned (.bool en) ∧ Keep NoB w w')) (G4 : Hid (∀ w, Calls Tryz.prog 30 #[instV op a b] w fun e w' => e = .returned (.bool en) ∧ Keep NoB w w'))
    (G5 : Hid (∀ w', Keep NoB w w' → Calls Tryz.prog 31 #[instV op a b] w' fun e w'' => e = .returned (.string Y) ∧ Keep NoB w' w'')) (G6 : Hid (∀ w, Calls Tryz.prog 32 #[instV op a b] w fun e w' => e = .returned (.string Y) ∧ Keep NoB w w')) :
    Calls Tryz.prog 4 #[.int .i64 op0, instV op a b, .string S] w fun e w' => e = .returned (.bool true) ∧ Keep NoB w w' := by
  have hq : decide ((100 : Int) < (S.size : Int)) = false := by rw [decide_eq_false_iff_not]; omega
  clear h
  have qX : (X.toList == X.toList) = true := by simp
  have qY : (Y.toList == Y.toList) = true := by simp
  have bx := Blk.new w 23 #[.int .i64 op, .int .i64 a, .int .i64 b]
  have gK := (Keep.refl NoB w).alloc (.cells #[.int .i64 op, .int .i64 a, .int .i64 b] 23)
  go_enter Tryz.func4, Tryz.ntmps4
  go_wp2_with fail
  refine (H1.out _).mono ?_
  rintro e w1 ⟨rfl, k1⟩
  replace bx := bx.keep k1 id
  replace gK := keepN gK k1
  clear k1
  go_wp2_with fail
  refine (H2.out _).mono ?_
  rintro e w1 ⟨rfl, k1⟩
  replace bx := bx.keep k1 id
  replace gK := keepN gK k1
  clear k1
  go_wp2_with fail
  refine (H3.out _).mono ?_
  rintro e w1 ⟨rfl, k1⟩
  replace bx := bx.keep k1 id
  replace gK := keepN gK k1
  clear k1
  go_wp2_with fail
  refine (H4.out _).mono ?_
  rintro e w1 ⟨rfl, rfl⟩
  obtain ⟨x0, x1, x2⟩ := blk_inst bx
  have hlt0 := bx.lt
  go_wp2_with fail
  refine (H5.out _).mono ?_
  rintro e w2 ⟨A, c, B, d, rfl, hOt, hOl, k1⟩
  simp only [hn.out, hm.out] at hOt hOl ⊢
  replace bx := bx.keep k1 id
  have hlt := bx.lt
  replace gK := keepN gK k1
  clear k1 x0 x1 x2
  have rl := own_rdI hOl
  clear hOl
  subst h0
  have hnil : tl = [] := List.length_eq_zero_iff.1 hn.out
  have rt := own_rdI hOt
  clear hOt
  obtain ⟨x0, x1, x2⟩ := blk_inst bx
  go_wp2_with fail
  refine (H6.out _).mono ?_
  rintro e w3 ⟨Aw, cw, Bw, dw, rfl, ⟨rtw, hAw⟩, ⟨rlw, _⟩, k1⟩
  simp only [hn.out, hm.out]
  replace bx := bx.keep k1 id
  replace gK := keepN gK k1
  replace rl := rl.keepN k1
  replace rt := rt.keepN k1
  clear k1 x0 x1 x2
  obtain ⟨x0, x1, x2⟩ := blk_inst bx
  go_wp2_with fail
  refine (H7.out _).mono ?_
  rintro e w1 ⟨rfl, k1⟩
  replace bx := bx.keep k1 id
  replace rl := rl.keepN k1
  replace rtw := rtw.keepN k1
  replace rlw := rlw.keepN k1
  replace rt := rt.keepN k1
  replace gK := keepN gK k1
  clear k1
  clear x0 x1 x2
  obtain ⟨x0, x1, x2⟩ := blk_inst bx
  go_wp2_with fail
  refine (H8.out _).mono ?_
  rintro e w1 ⟨rfl, k1⟩
  replace bx := bx.keep k1 id
  replace rl := rl.keepN k1
  replace rtw := rtw.keepN k1
  replace rlw := rlw.keepN k1
  replace rt := rt.keepN k1
  replace gK := keepN gK k1
  clear k1
  clear x0 x1 x2
  go_wp2_with fail
  refine (H9.out _ gK).mono ?_
  rintro e w6 ⟨v, rfl, hv, k1⟩
  obtain ⟨ry, rya, ryb, re, rfl⟩ := readV_form hv
  have HV := Lib.hid hv
  clear hv
  replace k1 := k1.alloc (.cells #[.int .i64 ry, .int .i64 rya, .int .i64 ryb] 23)
  have by_ := Blk.new w6 23 #[.int .i64 ry, .int .i64 rya, .int .i64 ryb]
  replace bx := bx.keep k1 id
  replace gK := keepN gK k1
  replace rl := rl.keepN k1
  replace rtw := rtw.keepN k1
  replace rlw := rlw.keepN k1
  replace rt := rt.keepN k1
  clear k1
  go_wp2_with fail
  refine (H10.out _).mono ?_
  rintro e w7 ⟨v, rfl, hv, k1⟩
  obtain rfl := readV_one hv HV.out
  clear hv
  replace k1 := k1.alloc (.cells #[.int .i64 ry, .int .i64 rya, .int .i64 ryb] 23)
  have bz := Blk.new w7 23 #[.int .i64 ry, .int .i64 rya, .int .i64 ryb]
  replace bx := bx.keep k1 id
  replace by_ := by_.keep k1 id
  replace gK := keepN gK k1
  replace rl := rl.keepN k1
  replace rtw := rtw.keepN k1
  replace rlw := rlw.keepN k1
  replace rt := rt.keepN k1
  clear k1
  obtain ⟨w8, hw8⟩ : ∃ w8, w7.alloc (.cells #[.int .i64 ry, .int .i64 rya, .int .i64 ryb] 23) = w8 := ⟨_, rfl⟩
  rw [hw8] at bx by_ bz gK rl rtw rlw rt
  have HW := Lib.hid hw8
  clear hw8
  go_wp2_with fail
  rw [HW.out]
  refine (ints_gen (c := c) (d := cw) rt rtw hn.out hn2 (Keep.refl NoB w8)).mono ?_
  rintro e w9 ⟨rfl, k1⟩
  go_wp2_with fail
  refine (ints_gen (c := d) (d := dw) rl rlw hm.out hm2 k1).mono ?_
  rintro e w10 ⟨rfl, k2⟩
  replace k1 := keepN k1 k2
  replace bx := bx.keep k1 id
  replace by_ := by_.keep k1 id
  replace bz := bz.keep k1 id
  replace rtw := rtw.keepN k1
  replace gK := keepN gK k1
  clear k1 k2 rl rlw rt
  obtain ⟨y0, y1, y2⟩ := blk_inst by_
  obtain ⟨z0, z1, z2⟩ := blk_inst bz
  go_wp2
  go_loopw [145] (fun i wr => i = .int .i64 0 ∧ wr = w10) (fun _ _ => 0)
  case atStart => exact ⟨rfl, rfl⟩
  case round =>
    obtain ⟨rfl, rfl⟩ := hrel
    obtain ⟨x0, x1, x2⟩ := blk_inst bx
    go_wp2_with fail
    refine (H5.out _).mono ?_
    rintro e v1 ⟨Ag, ca, Bg, da, rfl, hOg, _, k1⟩
    simp only [hn.out, hm.out] at hOg ⊢
    have rg := own_rdI hOg
    replace rtw := rtw.keepN k1
    replace bx := bx.keep k1 id
    replace gK := keepN gK k1
    clear k1 x0 x1 x2 hOg
    go_wp2_with fail
    refine wp_region_sh ((0, false) :: (1, false) :: (2, false) :: (3, false) :: (4, false) :: (5, false) :: (6, false) :: (7, false) :: (8, false) :: (9, false) :: (10, false) :: (11, false) :: (12, false) :: (13, false) :: (14, false) :: (15, false) :: (16, false) :: (17, false) :: (18, false) :: (19, false) :: (20, false) :: (21, false) :: (22, false) :: (23, false) :: (24, false) :: []) (fun w' => Keep NoB v1 w') (by kernel_rfl) (by kernel_rfl) (by rfl) (by kernel_rfl) (stable_keep v1) (Keep.refl NoB v1).drew ?_
    refine shM_step rfl rfl rfl (by rfl) (by rfl) ?_
    apply Exists.intro
    refine ⟨fun n_ K hK => ?_, ?_, ?_⟩
    · go_big_quiet_op
      exact hK _ rfl
    · kernel_rfl
    refine shM_step rfl rfl rfl (by rfl) (by rfl) ?_
    apply Exists.intro
    refine ⟨fun n_ K hK => ?_, ?_, ?_⟩
    · go_big_quiet_op
      exact hK _ rfl
    · kernel_rfl
    refine shM_step rfl rfl rfl (by rfl) (by rfl) ?_
    apply Exists.intro
    refine ⟨fun n_ K hK => ?_, ?_, ?_⟩
    · go_big_quiet_op
      apply Exists.intro
      refine ⟨fun m => ?_, ?_⟩
      · go_at_call 26
        exact kept_of (ints_gen (c := ca) (d := cw) rg rtw hn.out (by omega) (keepN n_.has m.keep))
      · exact hK _ rfl
    · kernel_rfl
    refine shM_step rfl rfl rfl (by rfl) (by rfl) ?_
    apply Exists.intro
    refine ⟨fun n_ K hK => ?_, ?_, ?_⟩
    · go_big_quiet_op
      exact hK _ rfl
    · kernel_rfl
    refine shM_step rfl rfl rfl (by rfl) (by rfl) ?_
    apply Exists.intro
    refine ⟨fun n_ K hK => ?_, ?_, ?_⟩
    · go_big_quiet_op
      exact hK _ rfl
    · kernel_rfl
    refine shM_step rfl rfl rfl (by rfl) (by rfl) ?_
    apply Exists.intro
    refine ⟨fun n_ K hK => ?_, ?_, ?_⟩
    · go_big_quiet_op
      apply Exists.intro
      refine ⟨fun m => ?_, ?_⟩
      · go_at_call 27
        exact kept_of (G1.out _)
      · exact hK _ rfl
    · kernel_rfl
    refine shM_step rfl rfl rfl (by rfl) (by rfl) ?_
    apply Exists.intro
    refine ⟨fun n_ K hK => ?_, ?_, ?_⟩
    · go_big_quiet_op
      exact hK _ rfl
    · kernel_rfl
    refine shM_step rfl rfl rfl (by rfl) (by rfl) ?_
    apply Exists.intro
    refine ⟨fun n_ K hK => ?_, ?_, ?_⟩
    · go_big_quiet_op
      apply Exists.intro
      refine ⟨fun m => ?_, ?_⟩
      · go_at_call 28
        exact kept_of (G2.out _)
      · exact hK _ rfl
    · kernel_rfl
    refine shM_step rfl rfl rfl (by rfl) (by rfl) ?_
    apply Exists.intro
    refine ⟨fun n_ K hK => ?_, ?_, ?_⟩
    · go_big_quiet_op
      exact hK _ rfl
    · kernel_rfl
    refine shM_step rfl rfl rfl (by rfl) (by rfl) ?_
    apply Exists.intro
    refine ⟨fun n_ K hK => ?_, ?_, ?_⟩
    · go_big_quiet_op
      exact hK _ rfl
    · kernel_rfl
    refine shM_step rfl rfl rfl (by rfl) (by rfl) ?_
    apply Exists.intro
    refine ⟨fun n_ K hK => ?_, ?_, ?_⟩
    · go_big_quiet_op
      exact hK _ rfl
    · kernel_rfl
    refine shM_step rfl rfl rfl (by rfl) (by rfl) ?_
    apply Exists.intro
    refine ⟨fun n_ K hK => ?_, ?_, ?_⟩
    · have x0 : ∀ m : KW n_.w, m.w.cell? ⟨w.heap.size, 0, none⟩ = some (.int .i64 op) := fun m => (bx.keep (keepN n_.has m.keep) id).cell 0
      have x1 : ∀ m : KW n_.w, m.w.cell? ⟨w.heap.size, 1, none⟩ = some (.int .i64 a) := fun m => (bx.keep (keepN n_.has m.keep) id).cell 1
      have x2 : ∀ m : KW n_.w, m.w.cell? ⟨w.heap.size, 2, none⟩ = some (.int .i64 b) := fun m => (bx.keep (keepN n_.has m.keep) id).cell 2
      go_big_quiet_op
      exact hK _ rfl
    · kernel_rfl
    refine shM_step rfl rfl rfl (by rfl) (by rfl) ?_
    apply Exists.intro
    refine ⟨fun n_ K hK => ?_, ?_, ?_⟩
    · go_big_quiet_op
      apply Exists.intro
      refine ⟨fun m => ?_, ?_⟩
      · go_at_call 29
        exact kept_of (G3.out _)
      · exact hK _ rfl
    · kernel_rfl
    refine shM_step rfl rfl rfl (by rfl) (by rfl) ?_
    apply Exists.intro
    refine ⟨fun n_ K hK => ?_, ?_, ?_⟩
    · have x0 : ∀ m : KW n_.w, m.w.cell? ⟨w.heap.size, 0, none⟩ = some (.int .i64 op) := fun m => (bx.keep (keepN n_.has m.keep) id).cell 0
      have x1 : ∀ m : KW n_.w, m.w.cell? ⟨w.heap.size, 1, none⟩ = some (.int .i64 a) := fun m => (bx.keep (keepN n_.has m.keep) id).cell 1
      have x2 : ∀ m : KW n_.w, m.w.cell? ⟨w.heap.size, 2, none⟩ = some (.int .i64 b) := fun m => (bx.keep (keepN n_.has m.keep) id).cell 2
      go_big_quiet_op
      exact hK _ rfl
    · kernel_rfl
    refine shM_step rfl rfl rfl (by rfl) (by rfl) ?_
    apply Exists.intro
    refine ⟨fun n_ K hK => ?_, ?_, ?_⟩
    · go_big_quiet_op
      apply Exists.intro
      refine ⟨fun m => ?_, ?_⟩
      · go_at_call 30
        exact kept_of (G4.out _)
      · exact hK _ rfl
    · kernel_rfl
    refine shM_step rfl rfl rfl (by rfl) (by rfl) ?_
    apply Exists.intro
    refine ⟨fun n_ K hK => ?_, ?_, ?_⟩
    · go_big_quiet_op
      exact hK _ rfl
    · kernel_rfl
    refine shM_step rfl rfl rfl (by rfl) (by rfl) ?_
    apply Exists.intro
    refine ⟨fun n_ K hK => ?_, ?_, ?_⟩
    · go_big_quiet_op
      exact hK _ rfl
    · kernel_rfl
    refine shM_step rfl rfl rfl (by rfl) (by rfl) ?_
    apply Exists.intro
    refine ⟨fun n_ K hK => ?_, ?_, ?_⟩
    · go_big_quiet_op
      exact hK _ rfl
    · kernel_rfl
    refine shM_step rfl rfl rfl (by rfl) (by rfl) ?_
    apply Exists.intro
    refine ⟨fun n_ K hK => ?_, ?_, ?_⟩
    · have x0 : ∀ m : KW n_.w, m.w.cell? ⟨w.heap.size, 0, none⟩ = some (.int .i64 op) := fun m => (bx.keep (keepN n_.has m.keep) id).cell 0
      have x1 : ∀ m : KW n_.w, m.w.cell? ⟨w.heap.size, 1, none⟩ = some (.int .i64 a) := fun m => (bx.keep (keepN n_.has m.keep) id).cell 1
      have x2 : ∀ m : KW n_.w, m.w.cell? ⟨w.heap.size, 2, none⟩ = some (.int .i64 b) := fun m => (bx.keep (keepN n_.has m.keep) id).cell 2
      go_big_quiet_op
      exact hK _ rfl
    · kernel_rfl
    refine shM_step rfl rfl rfl (by rfl) (by rfl) ?_
    apply Exists.intro
    refine ⟨fun n_ K hK => ?_, ?_, ?_⟩
    · go_big_quiet_op
      apply Exists.intro
      refine ⟨fun m => ?_, ?_⟩
      · go_at_call 31
        exact kept_of (G5.out _ (keepN gK (keepN n_.has m.keep)))
      · exact hK _ rfl
    · kernel_rfl
    refine shM_step rfl rfl rfl (by rfl) (by rfl) ?_
    apply Exists.intro
    refine ⟨fun n_ K hK => ?_, ?_, ?_⟩
    · have x0 : ∀ m : KW n_.w, m.w.cell? ⟨w.heap.size, 0, none⟩ = some (.int .i64 op) := fun m => (bx.keep (keepN n_.has m.keep) id).cell 0
      have x1 : ∀ m : KW n_.w, m.w.cell? ⟨w.heap.size, 1, none⟩ = some (.int .i64 a) := fun m => (bx.keep (keepN n_.has m.keep) id).cell 1
      have x2 : ∀ m : KW n_.w, m.w.cell? ⟨w.heap.size, 2, none⟩ = some (.int .i64 b) := fun m => (bx.keep (keepN n_.has m.keep) id).cell 2
      go_big_quiet_op
      exact hK _ rfl
    · kernel_rfl
    refine shM_step rfl rfl rfl (by rfl) (by rfl) ?_
    apply Exists.intro
    refine ⟨fun n_ K hK => ?_, ?_, ?_⟩
    · go_big_quiet_op
      apply Exists.intro
      refine ⟨fun m => ?_, ?_⟩
      · go_at_call 32
        exact kept_of (G6.out _)
      · exact hK _ rfl
    · kernel_rfl
    refine shM_step rfl rfl rfl (by rfl) (by rfl) ?_
    apply Exists.intro
    refine ⟨fun n_ K hK => ?_, ?_, ?_⟩
    · go_big_quiet_op
      exact hK _ rfl
    · kernel_rfl
    refine shM_step rfl rfl rfl (by rfl) (by rfl) ?_
    apply Exists.intro
    refine ⟨fun n_ K hK => ?_, ?_, ?_⟩
    · go_big_quiet_op
      exact hK _ rfl
    · kernel_rfl
    refine shM_step rfl rfl rfl (by rfl) (by rfl) ?_
    apply Exists.intro
    refine ⟨fun n_ K hK => ?_, ?_, ?_⟩
    · go_big_quiet_op
      exact hK _ rfl
    · kernel_rfl
    refine shM_nil (fun n_ => ?_)
    have k5 := n_.has
    generalize n_.w = v2 at k5 ⊢
    go_wp2
    go_ret
    exact ⟨rfl, keepN gK k5⟩

theorem tells_walk (op0 op a b : Int) (S : ByteArray) (w : World) (hL : LaidO w) (hC : CutAt w) (ha : I64 a) (hb : I64 b) :
    Calls Tryz.prog 4 #[.int .i64 op0, instV op a b, .string S] w fun e w' => e = .returned (.bool true) ∧ Keep NoB w w' := by
  by_cases h : S.size ≤ 100
  · have H5 := Lib.hid (fun w => effect_any op a b w)
    have H6 := Lib.hid (fun w => reffect_any op a b w ha hb)
    have hn2 := takes_two op a b
    have hm2 := leaves_two op a b
    by_cases h0 : (takesI op a b).length = 0
    · exact tells_nil op0 op a b S _ w h _ _ _ _ _ _ _ _ rfl rfl hn2 hm2 h0 _ _ _ (fun w => opOf_any S w) (fun w => rof_any S w) (fun w => kinds_any op0 w) (fun w => rkinds_any op0 w) H5 H6 (fun w => goes_any op a b w) (fun w => rgoes_any op a b w ha hb)
        (fun w' hk => read_text S _ w' rfl (by omega) (hL.keep hk) (hC.keep hk)) (fun w => rread_text S _ w rfl (by omega)) _ _ _ (fun w => name_any op0 w) (fun w => rname_any op0 w) (fun w => ends_any op a b w) (fun w => rends_any op a b w ha hb)
        (fun w' hk => show_any op a b w' ha hb (hL.keep hk)) (fun w => rshow_any op a b w ha hb)
    · exact tells_own op0 op a b S _ w h _ _ _ _ _ _ _ _ rfl rfl hn2 hm2 (by omega) _ _ _ (fun w => opOf_any S w) (fun w => rof_any S w) (fun w => kinds_any op0 w) (fun w => rkinds_any op0 w) H5 H6 (fun w => goes_any op a b w) (fun w => rgoes_any op a b w ha hb)
        (fun w' hk => read_text S _ w' rfl (by omega) (hL.keep hk) (hC.keep hk)) (fun w => rread_text S _ w rfl (by omega)) _ _ _ (fun w => name_any op0 w) (fun w => rname_any op0 w) (fun w => ends_any op a b w) (fun w => rends_any op a b w ha hb)
        (fun w' hk => show_any op a b w' ha hb (hL.keep hk)) (fun w => rshow_any op a b w ha hb)
  · exact tells_big op0 op a b S w (by omega)

end Go.Proofs.YtpkcjokkadfhcaaGreatDoor.O
