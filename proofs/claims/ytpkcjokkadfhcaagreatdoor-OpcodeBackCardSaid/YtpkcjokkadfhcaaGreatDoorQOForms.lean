/-
  OpcodeForms' walk: an instruction's bytes, and the instruction of any bytes, are the document's. Conditions: numbers fit an int64; the bytes stand.
-/
import Derived.Test.YtpkcjokkadfhcaaGreatDoorQ7
import Derived.Test.YtpkcjokkadfhcaaGreatDoorQ8
namespace Go.Proofs.YtpkcjokkadfhcaaGreatDoor.O
open Go.RowKit

theorem own_rd {w : World} {O : Nat → Prop} {v : Value} {l : List UInt8} (h : V.OwnB w O v l) : ∃ A c, v = .slice A l.length c ∧ V.Rd w A l ∧ (∀ ad, A = some ad → ad.block < w.heap.size) := by
  obtain ⟨A, c, rfl, _, hr, _, _⟩ := h.form
  exact ⟨A, c, rfl, hr, fun ad e => (h.1.lt ad.block (by rw [e]; rfl)).2⟩
theorem rd_br {w w' : World} {A : Option Addr} {l : List UInt8} {B br : Nat} (h : V.Rd w A l) (hb : ∀ ad, A = some ad → ad.block < B) (hbr : B ≤ br) (hk : Keep (fun k => k = br) w w') : V.Rd w' A l :=
  h.keep hk (fun ad e _ he => by have := hb ad e; omega)
theorem rd_n {w w' : World} {A : Option Addr} {l : List UInt8} (h : V.Rd w A l) (hk : Keep NoB w w') : V.Rd w' A l := h.keep hk (fun _ _ _ => id)
theorem check_genF (op a b c : Int) (w : World) (h : chk op a b = c) :
    Calls Tryz.prog 14 #[instV op a b] w fun e w' => e = .returned (.int .i64 c) ∧ Keep NoB w w' := by subst h; exact check_any op a b w
theorem at_gen {w w1 : World} {br p : Nat} {O : Nat → Prop} {l : List UInt8} (h : V.ReelAt w1 br O l p) (hk : Keep NoB w1 w) :
    Calls Tryz.prog 13 #[.pointer (some ⟨br, 0, none⟩)] w fun e w' => e = .returned (.int .i64 p) ∧ Keep NoB w w' :=
  (V.at_any w br O l p (h.keep hk (fun _ _ => id))).mono fun _ _ ⟨he, hw⟩ => ⟨he, by rw [← hw]; exact Keep.refl _ _⟩
theorem keep_br {w w1 w2 : World} {br : Nat} (h : Keep NoB w w1) (h2 : Keep (fun k => k = br) w1 w2) (hbr : w.heap.size ≤ br) : Keep NoB w w2 := h.trans h2 (fun k e hl => by subst e; omega)
theorem list_self (T : ByteArray) : (T.toList == T.toList) = true := by simp

set_option maxRecDepth 100000 in
set_option maxHeartbeats 1000000 in
theorem forms_big (op a b : Int) (A : Option Addr) (n c : Nat) (w : World) (h : 100 < n) :
    Calls Tryz.prog 3 #[instV op a b, .slice A n c] w fun e w' => e = .returned (.bool true) ∧ Keep NoB w w' := by
  have hq : decide ((100 : Int) < (n : Int)) = true := by rw [decide_eq_true_iff]; omega
  clear h
  go_enter Tryz.func3, Tryz.ntmps3
  go_wp2
  go_ret
  exact ⟨rfl, (Keep.refl NoB w).alloc _⟩

theorem ref_place {w : World} {br p : Nat} {O : Nat → Prop} {l : List UInt8} (h : V.RefAt w br O l p) : w.cell? ⟨br, 1, none⟩ = some (.int .i64 (p : Int)) := by
  obtain ⟨A, c, hb, _⟩ := h.cells
  exact hb.cell 1

set_option maxRecDepth 100000 in
set_option maxHeartbeats 4000000 in
theorem forms_ok (op a b : Int) (A : Option Addr) (l : List UInt8) (c : Nat) (w : World) (hI : Hid (I64 a ∧ I64 b)) (hr : Hid (V.Rd w A l)) (h : l.length ≤ 100) (d : Dec) (hd : decI l 0 = d) (her : d.er = 0) (k : Int) (hk : Hid (chk op a b = k)) (E : ByteArray) (hE : Hid (str (encI op a b) = E)) (D : ByteArray) (hD : Hid (str l = D)) :
    Calls Tryz.prog 3 #[instV op a b, .slice A l.length c] w fun e w' => e = .returned (.bool true) ∧ Keep NoB w w' := by
  have HL : Hid (l.length ≤ 140737488355328) := by show _ ≤ _; omega
  have hq : decide ((100 : Int) < (l.length : Int)) = false := by rw [decide_eq_false_iff_not]; omega
  clear h
  have qE := list_self E
  have qD := list_self D
  have HX := Lib.hid (fun w => encode_any op a b w hI.out.1 hI.out.2)
  have HY := Lib.hid (fun w => rencode_any op a b w hI.out.1 hI.out.2)
  rw [hk.out] at HX HY
  have HD1 := Lib.hid (fun w br O hO h => decode_any w br O l 0 hO h HL.out)
  have HD2 := Lib.hid (fun w br O hO h => rdecode_any w br O l 0 hO h HL.out)
  rw [hd] at HD1 HD2
  have HRC := Lib.hid (fun w => rcheck_any op a b w hI.out.1 hI.out.2)
  rw [hk.out] at HRC
  obtain ⟨dop, da, db, der, dpl⟩ := d
  dsimp only at her
  subst her
  clear hd
  have bx := Blk.new w 23 #[.int .i64 op, .int .i64 a, .int .i64 b]
  have gK := (Keep.refl NoB w).alloc (.cells #[.int .i64 op, .int .i64 a, .int .i64 b] 23)
  go_enter Tryz.func3, Tryz.ntmps3
  go_wp2_with fail
  refine (V.twin_any _ A l c (rd_n hr.out gK) HL.out).mono ?_
  rintro e w1 ⟨vo, rfl, ho, k1⟩
  obtain ⟨Ao, co, rfl, ro, bo⟩ := own_rd ho
  replace bx := bx.keep k1 id
  replace gK := keepN gK k1
  clear ho k1
  obtain ⟨x0, x1, x2⟩ := blk_inst bx
  go_wp2_with fail
  refine (HX.out _).mono ?_
  rintro e w2 ⟨vu, rfl, hu, k1⟩
  obtain ⟨Au, cu, rfl, ru, bu⟩ := own_rd hu
  replace bx := bx.keep k1 id
  replace gK := keepN gK k1
  replace ro := rd_n ro k1
  have s2 := k1.size
  clear hu k1 x0 x1 x2
  obtain ⟨x0, x1, x2⟩ := blk_inst bx
  go_wp2_with fail
  refine (HY.out _).mono ?_
  rintro e w3 ⟨vv, rfl, hv, k1⟩
  obtain ⟨Av, cv, rfl, rv, bv⟩ := own_rd hv
  replace bx := bx.keep k1 id
  replace gK := keepN gK k1
  replace ro := rd_n ro k1
  replace ru := rd_n ru k1
  have s3 := k1.size
  have hxlt := bx.lt
  clear hv k1 x0 x1 x2
  go_wp2_with fail
  refine (V.on_any _ Ao l co ro HL.out).mono ?_
  rintro e w4 ⟨br, rfl, hR, k1⟩
  replace bx := bx.keep k1 id
  replace gK := keepN gK k1
  replace ro := rd_n ro k1
  replace ru := rd_n ru k1
  replace rv := rd_n rv k1
  have s4 := k1.size
  have hbr : w3.heap.size ≤ br := hR.1
  have hR := reel_new hR
  have hbr2 : br < w4.heap.size := reel_lt hR
  clear k1
  go_wp2_with fail
  refine (V.twin_any _ A l c (rd_n hr.out gK) HL.out).mono ?_
  rintro e w5 ⟨vb, rfl, hb, k1⟩
  obtain ⟨Ab, cb, rfl, hcb, rb, hAb, hmb⟩ := hb.form
  have bb : ∀ ad, Ab = some ad → ad.block < w5.heap.size := fun ad e => (hb.1.lt ad.block (by rw [e]; rfl)).2
  have s5 := k1.size
  replace k1 := k1.alloc (.cells #[.slice Ab l.length cb, .int .i64 0] 35)
  replace bx := bx.keep k1 id
  replace gK := keepN gK k1
  replace ro := rd_n ro k1
  replace ru := rd_n ru k1
  replace rv := rd_n rv k1
  replace hR := hR.keep k1 (fun _ _ => id)
  have hS : V.RefAt (w5.alloc (.cells #[.slice Ab l.length cb, .int .i64 0] 35)) w5.heap.size (fun k => w4.heap.size ≤ k ∧ k < (w5.alloc (.cells #[.slice Ab l.length cb, .int .i64 0] 35)).heap.size) l 0 :=
    ⟨⟨s5, by simp⟩, Nat.zero_le _, Ab, cb, Blk.new _ _ _, rd_n rb ((Keep.refl NoB w5).alloc _), hcb, hmb, fun ad e => ⟨⟨(hAb ad e).1, by have := bb ad e; simp; omega⟩, by have := bb ad e; simp; omega⟩⟩
  clear k1 hb rb hAb hcb hmb bb
  have s6 : (w5.alloc (.cells #[.slice Ab l.length cb, .int .i64 0] 35)).heap.size = w5.heap.size + 1 := by simp
  go_wp2_with fail
  refine (HD1.out _ br _ (fun k hk => by omega) hR).mono ?_
  rintro e w7 ⟨rfl, hR, k1⟩
  dsimp only at hR
  have s7 := k1.size
  replace ro := rd_br ro (B := w3.heap.size) (fun ad e => by have := bo ad e; omega) hbr k1
  replace ru := rd_br ru (B := w3.heap.size) (fun ad e => by have := bu ad e; omega) hbr k1
  replace rv := rd_br rv (B := w3.heap.size) (fun ad e => by have := bv ad e; omega) hbr k1
  replace bx := bx.keep k1 (fun e => by omega)
  replace hS := hS.keep k1 (fun k ho e => by omega)
  replace gK := keep_br gK k1 (by omega)
  have k2 := (Keep.refl NoB w7).alloc (.cells #[.int .i64 dop, .int .i64 da, .int .i64 db] 23)
  have by_ := Blk.new w7 23 #[.int .i64 dop, .int .i64 da, .int .i64 db]
  replace ro := rd_n ro k2
  replace ru := rd_n ru k2
  replace rv := rd_n rv k2
  replace bx := bx.keep k2 id
  replace hS := hS.keep k2 (fun _ _ => id)
  replace hR := hR.keep k2 (fun _ _ => id)
  replace gK := keepN gK k2
  clear k1 k2
  go_wp2_with fail
  refine (HD2.out _ w5.heap.size _ (fun k hk => by simp; omega) hS).mono ?_
  rintro e w8 ⟨rfl, hS, k1⟩
  dsimp only at hS
  have s8 := k1.size
  replace ro := rd_br ro (B := w3.heap.size) (fun ad e => by have := bo ad e; omega) (by omega) k1
  replace ru := rd_br ru (B := w3.heap.size) (fun ad e => by have := bu ad e; omega) (by omega) k1
  replace rv := rd_br rv (B := w3.heap.size) (fun ad e => by have := bv ad e; omega) (by omega) k1
  replace bx := bx.keep k1 (fun e => by omega)
  replace by_ := by_.keep k1 (fun e => by omega)
  replace hR := hR.keep k1 (fun k ho e => by omega)
  replace gK := keep_br gK k1 (by omega)
  have k2 := (Keep.refl NoB w8).alloc (.cells #[.int .i64 dop, .int .i64 da, .int .i64 db] 23)
  have bz := Blk.new w8 23 #[.int .i64 dop, .int .i64 da, .int .i64 db]
  replace ro := rd_n ro k2
  replace ru := rd_n ru k2
  replace rv := rd_n rv k2
  replace bx := bx.keep k2 id
  replace by_ := by_.keep k2 id
  replace hS := hS.keep k2 (fun _ _ => id)
  replace hR := hR.keep k2 (fun _ _ => id)
  replace gK := keepN gK k2
  have rb := rd_n hr.out gK
  clear k1 k2
  obtain ⟨w9, hw9⟩ : ∃ w9, w8.alloc (.cells #[.int .i64 dop, .int .i64 da, .int .i64 db] 23) = w9 := ⟨_, rfl⟩
  rw [hw9] at ro ru rv bx by_ bz hS hR gK rb
  have HW := Lib.hid hw9
  clear hw9
  go_wp2_with fail
  rw [HW.out]
  refine wp_region_sh ((0, false) :: (1, false) :: (2, false) :: (3, false) :: (4, false) :: (5, false) :: (6, false) :: (7, false) :: (8, false) :: (9, false) :: (10, false) :: (11, false) :: (12, false) :: (13, false) :: (14, false) :: (15, false) :: (16, false) :: (17, false) :: (18, false) :: (19, false) :: (20, false) :: (21, false) :: (22, false) :: (23, false) :: (24, false) :: (25, false) :: (26, false) :: (27, false) :: (28, false) :: (29, false) :: (30, false) :: (31, false) :: (32, false) :: (33, false) :: (34, false) :: (35, false) :: (36, false) :: (37, false) :: (38, false) :: (39, false) :: (40, false) :: (41, false) :: (42, false) :: (43, false) :: (44, false) :: (45, false) :: (46, false) :: (47, false) :: []) (fun w' => Keep NoB w9 w') (by kernel_rfl) (by kernel_rfl) (by rfl) (by kernel_rfl) (stable_keep w9) (Keep.refl NoB w9).drew ?_
  refine shM_step rfl rfl rfl (by rfl) (by rfl) ?_
  apply Exists.intro
  refine ⟨fun n K hK => ?_, ?_, ?_⟩
  · go_big_quiet_op
    exact hK _ rfl
  · kernel_rfl
  refine shM_step rfl rfl rfl (by rfl) (by rfl) ?_
  apply Exists.intro
  refine ⟨fun n K hK => ?_, ?_, ?_⟩
  · have cu_ : ∀ m : KW n.w, (convert 24 9 (.slice Au (encI op a b).length cu)).run Tryz.prog m.w = .ok (.string E) m.w := fun m => by have := V.conv_rd (c := cu) (rd_n ru (keepN n.has m.keep)); rw [show V.str (encI op a b) = E from hE.out] at this; exact this
    go_big_quiet_op
    exact hK _ rfl
  · kernel_rfl
  refine shM_step rfl rfl rfl (by rfl) (by rfl) ?_
  apply Exists.intro
  refine ⟨fun n K hK => ?_, ?_, ?_⟩
  · go_big_quiet_op
    exact hK _ rfl
  · kernel_rfl
  refine shM_step rfl rfl rfl (by rfl) (by rfl) ?_
  apply Exists.intro
  refine ⟨fun n K hK => ?_, ?_, ?_⟩
  · have cv_ : ∀ m : KW n.w, (convert 24 9 (.slice Av (encI op a b).length cv)).run Tryz.prog m.w = .ok (.string E) m.w := fun m => by have := V.conv_rd (c := cv) (rd_n rv (keepN n.has m.keep)); rw [show V.str (encI op a b) = E from hE.out] at this; exact this
    go_big_quiet_op
    exact hK _ rfl
  · kernel_rfl
  refine shM_step rfl rfl rfl (by rfl) (by rfl) ?_
  apply Exists.intro
  refine ⟨fun n K hK => ?_, ?_, ?_⟩
  · go_big_quiet_op
    exact hK _ rfl
  · kernel_rfl
  refine shM_step rfl rfl rfl (by rfl) (by rfl) ?_
  apply Exists.intro
  refine ⟨fun n K hK => ?_, ?_, ?_⟩
  · go_big_quiet_op
    exact hK _ rfl
  · kernel_rfl
  refine shM_step rfl rfl rfl (by rfl) (by rfl) ?_
  apply Exists.intro
  refine ⟨fun n K hK => ?_, ?_, ?_⟩
  · go_big_quiet_op
    exact hK _ rfl
  · kernel_rfl
  refine shM_step rfl rfl rfl (by rfl) (by rfl) ?_
  apply Exists.intro
  refine ⟨fun n K hK => ?_, ?_, ?_⟩
  · go_big_quiet_op
    exact hK _ rfl
  · kernel_rfl
  refine shM_step rfl rfl rfl (by rfl) (by rfl) ?_
  apply Exists.intro
  refine ⟨fun n K hK => ?_, ?_, ?_⟩
  · go_big_quiet_op
    exact hK _ rfl
  · kernel_rfl
  refine shM_step rfl rfl rfl (by rfl) (by rfl) ?_
  apply Exists.intro
  refine ⟨fun n K hK => ?_, ?_, ?_⟩
  · go_big_quiet_op
    exact hK _ rfl
  · kernel_rfl
  refine shM_step rfl rfl rfl (by rfl) (by rfl) ?_
  apply Exists.intro
  refine ⟨fun n K hK => ?_, ?_, ?_⟩
  · go_big_quiet_op
    exact hK _ rfl
  · kernel_rfl
  refine shM_step rfl rfl rfl (by rfl) (by rfl) ?_
  apply Exists.intro
  refine ⟨fun n K hK => ?_, ?_, ?_⟩
  · have y0 : ∀ m : KW n.w, m.w.cell? ⟨w7.heap.size, 0, none⟩ = some (.int .i64 dop) := fun m => (by_.keep (keepN n.has m.keep) id).cell 0
    have y1 : ∀ m : KW n.w, m.w.cell? ⟨w7.heap.size, 1, none⟩ = some (.int .i64 da) := fun m => (by_.keep (keepN n.has m.keep) id).cell 1
    have y2 : ∀ m : KW n.w, m.w.cell? ⟨w7.heap.size, 2, none⟩ = some (.int .i64 db) := fun m => (by_.keep (keepN n.has m.keep) id).cell 2
    go_big_quiet_op
    exact hK _ rfl
  · kernel_rfl
  refine shM_step rfl rfl rfl (by rfl) (by rfl) ?_
  apply Exists.intro
  refine ⟨fun n K hK => ?_, ?_, ?_⟩
  · have z0 : ∀ m : KW n.w, m.w.cell? ⟨w8.heap.size, 0, none⟩ = some (.int .i64 dop) := fun m => (bz.keep (keepN n.has m.keep) id).cell 0
    have z1 : ∀ m : KW n.w, m.w.cell? ⟨w8.heap.size, 1, none⟩ = some (.int .i64 da) := fun m => (bz.keep (keepN n.has m.keep) id).cell 1
    have z2 : ∀ m : KW n.w, m.w.cell? ⟨w8.heap.size, 2, none⟩ = some (.int .i64 db) := fun m => (bz.keep (keepN n.has m.keep) id).cell 2
    go_big_quiet_op
    exact hK _ rfl
  · kernel_rfl
  refine shM_step rfl rfl rfl (by rfl) (by rfl) ?_
  apply Exists.intro
  refine ⟨fun n K hK => ?_, ?_, ?_⟩
  · go_big_quiet_op
    exact hK _ rfl
  · kernel_rfl
  refine shM_step rfl rfl rfl (by rfl) (by rfl) ?_
  apply Exists.intro
  refine ⟨fun n K hK => ?_, ?_, ?_⟩
  · go_big_quiet_op
    exact hK _ rfl
  · kernel_rfl
  refine shM_step rfl rfl rfl (by rfl) (by rfl) ?_
  apply Exists.intro
  refine ⟨fun n K hK => ?_, ?_, ?_⟩
  · go_big_quiet_op
    exact hK _ rfl
  · kernel_rfl
  refine shM_step rfl rfl rfl (by rfl) (by rfl) ?_
  apply Exists.intro
  refine ⟨fun n K hK => ?_, ?_, ?_⟩
  · go_big_quiet_op
    exact hK _ rfl
  · kernel_rfl
  refine shM_step rfl rfl rfl (by rfl) (by rfl) ?_
  apply Exists.intro
  refine ⟨fun n K hK => ?_, ?_, ?_⟩
  · go_big_quiet_op
    exact hK _ rfl
  · kernel_rfl
  refine shM_step rfl rfl rfl (by rfl) (by rfl) ?_
  apply Exists.intro
  refine ⟨fun n K hK => ?_, ?_, ?_⟩
  · go_big_quiet_op
    exact hK _ rfl
  · kernel_rfl
  refine shM_step rfl rfl rfl (by rfl) (by rfl) ?_
  apply Exists.intro
  refine ⟨fun n K hK => ?_, ?_, ?_⟩
  · go_big_quiet_op
    exact hK _ rfl
  · kernel_rfl
  refine shM_step rfl rfl rfl (by rfl) (by rfl) ?_
  apply Exists.intro
  refine ⟨fun n K hK => ?_, ?_, ?_⟩
  · go_big_quiet_op
    exact hK _ rfl
  · kernel_rfl
  refine shM_step rfl rfl rfl (by rfl) (by rfl) ?_
  apply Exists.intro
  refine ⟨fun n K hK => ?_, ?_, ?_⟩
  · go_big_quiet_op
    exact hK _ rfl
  · kernel_rfl
  refine shM_step rfl rfl rfl (by rfl) (by rfl) ?_
  apply Exists.intro
  refine ⟨fun n K hK => ?_, ?_, ?_⟩
  · go_big_quiet_op
    exact hK _ rfl
  · kernel_rfl
  refine shM_step rfl rfl rfl (by rfl) (by rfl) ?_
  apply Exists.intro
  refine ⟨fun n K hK => ?_, ?_, ?_⟩
  · go_big_quiet_op
    exact hK _ rfl
  · kernel_rfl
  refine shM_step rfl rfl rfl (by rfl) (by rfl) ?_
  apply Exists.intro
  refine ⟨fun n K hK => ?_, ?_, ?_⟩
  · go_big_quiet_op
    exact hK _ rfl
  · kernel_rfl
  refine shM_step rfl rfl rfl (by rfl) (by rfl) ?_
  apply Exists.intro
  refine ⟨fun n K hK => ?_, ?_, ?_⟩
  · go_big_quiet_op
    apply Exists.intro
    refine ⟨fun m => ?_, ?_⟩
    · go_at_call 13
      exact kept_of (at_gen hR (keepN n.has m.keep))
    · exact hK _ rfl
  · kernel_rfl
  refine shM_step rfl rfl rfl (by rfl) (by rfl) ?_
  apply Exists.intro
  refine ⟨fun n K hK => ?_, ?_, ?_⟩
  · go_big_quiet_op
    exact hK _ rfl
  · kernel_rfl
  refine shM_step rfl rfl rfl (by rfl) (by rfl) ?_
  apply Exists.intro
  refine ⟨fun n K hK => ?_, ?_, ?_⟩
  · go_big_quiet_op
    exact hK _ rfl
  · kernel_rfl
  refine shM_step rfl rfl rfl (by rfl) (by rfl) ?_
  apply Exists.intro
  refine ⟨fun n K hK => ?_, ?_, ?_⟩
  · go_big_quiet_op
    exact hK _ rfl
  · kernel_rfl
  refine shM_step rfl rfl rfl (by rfl) (by rfl) ?_
  apply Exists.intro
  refine ⟨fun n K hK => ?_, ?_, ?_⟩
  · have sp : ∀ m : KW n.w, m.w.cell? ⟨w5.heap.size, 1, none⟩ = some (.int .i64 (dpl : Int)) := fun m => ref_place (hS.keep (keepN n.has m.keep) (fun _ _ => id))
    go_big_quiet_op
    exact hK _ rfl
  · kernel_rfl
  refine shM_step rfl rfl rfl (by rfl) (by rfl) ?_
  apply Exists.intro
  refine ⟨fun n K hK => ?_, ?_, ?_⟩
  · go_big_quiet_op
    exact hK _ rfl
  · kernel_rfl
  refine shM_step rfl rfl rfl (by rfl) (by rfl) ?_
  apply Exists.intro
  refine ⟨fun n K hK => ?_, ?_, ?_⟩
  · go_big_quiet_op
    exact hK _ rfl
  · kernel_rfl
  refine shM_step rfl rfl rfl (by rfl) (by rfl) ?_
  apply Exists.intro
  refine ⟨fun n K hK => ?_, ?_, ?_⟩
  · go_big_quiet_op
    exact hK _ rfl
  · kernel_rfl
  refine shM_step rfl rfl rfl (by rfl) (by rfl) ?_
  apply Exists.intro
  refine ⟨fun n K hK => ?_, ?_, ?_⟩
  · go_big_quiet_op
    exact hK _ rfl
  · kernel_rfl
  refine shM_step rfl rfl rfl (by rfl) (by rfl) ?_
  apply Exists.intro
  refine ⟨fun n K hK => ?_, ?_, ?_⟩
  · have x0 : ∀ m : KW n.w, m.w.cell? ⟨w.heap.size, 0, none⟩ = some (.int .i64 op) := fun m => (bx.keep (keepN n.has m.keep) id).cell 0
    have x1 : ∀ m : KW n.w, m.w.cell? ⟨w.heap.size, 1, none⟩ = some (.int .i64 a) := fun m => (bx.keep (keepN n.has m.keep) id).cell 1
    have x2 : ∀ m : KW n.w, m.w.cell? ⟨w.heap.size, 2, none⟩ = some (.int .i64 b) := fun m => (bx.keep (keepN n.has m.keep) id).cell 2
    go_big_quiet_op
    exact hK _ rfl
  · kernel_rfl
  refine shM_step rfl rfl rfl (by rfl) (by rfl) ?_
  apply Exists.intro
  refine ⟨fun n K hK => ?_, ?_, ?_⟩
  · go_big_quiet_op
    apply Exists.intro
    refine ⟨fun m => ?_, ?_⟩
    · go_at_call 14
      exact kept_of (check_genF op a b k _ hk.out)
    · exact hK _ rfl
  · kernel_rfl
  refine shM_step rfl rfl rfl (by rfl) (by rfl) ?_
  apply Exists.intro
  refine ⟨fun n K hK => ?_, ?_, ?_⟩
  · have x0 : ∀ m : KW n.w, m.w.cell? ⟨w.heap.size, 0, none⟩ = some (.int .i64 op) := fun m => (bx.keep (keepN n.has m.keep) id).cell 0
    have x1 : ∀ m : KW n.w, m.w.cell? ⟨w.heap.size, 1, none⟩ = some (.int .i64 a) := fun m => (bx.keep (keepN n.has m.keep) id).cell 1
    have x2 : ∀ m : KW n.w, m.w.cell? ⟨w.heap.size, 2, none⟩ = some (.int .i64 b) := fun m => (bx.keep (keepN n.has m.keep) id).cell 2
    go_big_quiet_op
    exact hK _ rfl
  · kernel_rfl
  refine shM_step rfl rfl rfl (by rfl) (by rfl) ?_
  apply Exists.intro
  refine ⟨fun n K hK => ?_, ?_, ?_⟩
  · go_big_quiet_op
    apply Exists.intro
    refine ⟨fun m => ?_, ?_⟩
    · go_at_call 15
      exact kept_of (HRC.out _)
    · exact hK _ rfl
  · kernel_rfl
  refine shM_step rfl rfl rfl (by rfl) (by rfl) ?_
  apply Exists.intro
  refine ⟨fun n K hK => ?_, ?_, ?_⟩
  · go_big_quiet_op
    exact hK _ rfl
  · kernel_rfl
  refine shM_step rfl rfl rfl (by rfl) (by rfl) ?_
  apply Exists.intro
  refine ⟨fun n K hK => ?_, ?_, ?_⟩
  · go_big_quiet_op
    exact hK _ rfl
  · kernel_rfl
  refine shM_step rfl rfl rfl (by rfl) (by rfl) ?_
  apply Exists.intro
  refine ⟨fun n K hK => ?_, ?_, ?_⟩
  · go_big_quiet_op
    exact hK _ rfl
  · kernel_rfl
  refine shM_step rfl rfl rfl (by rfl) (by rfl) ?_
  apply Exists.intro
  refine ⟨fun n K hK => ?_, ?_, ?_⟩
  · go_big_quiet_op
    exact hK _ rfl
  · kernel_rfl
  refine shM_step rfl rfl rfl (by rfl) (by rfl) ?_
  apply Exists.intro
  refine ⟨fun n K hK => ?_, ?_, ?_⟩
  · have co_ : ∀ m : KW n.w, (convert 24 9 (.slice Ao l.length co)).run Tryz.prog m.w = .ok (.string D) m.w := fun m => by have := V.conv_rd (c := co) (rd_n ro (keepN n.has m.keep)); rw [show V.str l = D from hD.out] at this; exact this
    go_big_quiet_op
    exact hK _ rfl
  · kernel_rfl
  refine shM_step rfl rfl rfl (by rfl) (by rfl) ?_
  apply Exists.intro
  refine ⟨fun n K hK => ?_, ?_, ?_⟩
  · go_big_quiet_op
    exact hK _ rfl
  · kernel_rfl
  refine shM_step rfl rfl rfl (by rfl) (by rfl) ?_
  apply Exists.intro
  refine ⟨fun n K hK => ?_, ?_, ?_⟩
  · have cb_ : ∀ m : KW n.w, (convert 24 9 (.slice A l.length c)).run Tryz.prog m.w = .ok (.string D) m.w := fun m => by have := V.conv_rd (c := c) (rd_n rb (keepN n.has m.keep)); rw [show V.str l = D from hD.out] at this; exact this
    go_big_quiet_op
    exact hK _ rfl
  · kernel_rfl
  refine shM_step rfl rfl rfl (by rfl) (by rfl) ?_
  apply Exists.intro
  refine ⟨fun n K hK => ?_, ?_, ?_⟩
  · go_big_quiet_op
    exact hK _ rfl
  · kernel_rfl
  refine shM_step rfl rfl rfl (by rfl) (by rfl) ?_
  apply Exists.intro
  refine ⟨fun n K hK => ?_, ?_, ?_⟩
  · go_big_quiet_op
    exact hK _ rfl
  · kernel_rfl
  refine shM_step rfl rfl rfl (by rfl) (by rfl) ?_
  apply Exists.intro
  refine ⟨fun n K hK => ?_, ?_, ?_⟩
  · go_big_quiet_op
    exact hK _ rfl
  · kernel_rfl
  refine shM_nil (fun n => ?_)
  have k5 := n.has
  generalize n.w = w10 at k5 ⊢
  go_wp2
  go_ret
  exact ⟨rfl, keepN gK k5⟩

set_option maxRecDepth 100000 in
set_option maxHeartbeats 4000000 in
theorem forms_no (op a b : Int) (A : Option Addr) (l : List UInt8) (c : Nat) (w : World) (hI : Hid (I64 a ∧ I64 b)) (hr : Hid (V.Rd w A l)) (h : l.length ≤ 100) (d : Dec) (hd : decI l 0 = d) (her : d.er ≠ 0) (k : Int) (hk : Hid (chk op a b = k)) (E : ByteArray) (hE : Hid (str (encI op a b) = E)) (D : ByteArray) (hD : Hid (str l = D)) :
    Calls Tryz.prog 3 #[instV op a b, .slice A l.length c] w fun e w' => e = .returned (.bool true) ∧ Keep NoB w w' := by
  have HL : Hid (l.length ≤ 140737488355328) := by show _ ≤ _; omega
  have hq : decide ((100 : Int) < (l.length : Int)) = false := by rw [decide_eq_false_iff_not]; omega
  clear h
  have qE := list_self E
  have qD := list_self D
  have HX := Lib.hid (fun w => encode_any op a b w hI.out.1 hI.out.2)
  have HY := Lib.hid (fun w => rencode_any op a b w hI.out.1 hI.out.2)
  rw [hk.out] at HX HY
  have HD1 := Lib.hid (fun w br O hO h => decode_any w br O l 0 hO h HL.out)
  have HD2 := Lib.hid (fun w br O hO h => rdecode_any w br O l 0 hO h HL.out)
  rw [hd] at HD1 HD2
  have HRC := Lib.hid (fun w => rcheck_any op a b w hI.out.1 hI.out.2)
  rw [hk.out] at HRC
  obtain ⟨dop, da, db, der, dpl⟩ := d
  dsimp only at her
  have qe : ((der : Int) != 0) = true := by rw [bne_iff_ne]; omega
  clear hd
  have bx := Blk.new w 23 #[.int .i64 op, .int .i64 a, .int .i64 b]
  have gK := (Keep.refl NoB w).alloc (.cells #[.int .i64 op, .int .i64 a, .int .i64 b] 23)
  go_enter Tryz.func3, Tryz.ntmps3
  go_wp2_with fail
  refine (V.twin_any _ A l c (rd_n hr.out gK) HL.out).mono ?_
  rintro e w1 ⟨vo, rfl, ho, k1⟩
  obtain ⟨Ao, co, rfl, ro, bo⟩ := own_rd ho
  replace bx := bx.keep k1 id
  replace gK := keepN gK k1
  clear ho k1
  obtain ⟨x0, x1, x2⟩ := blk_inst bx
  go_wp2_with fail
  refine (HX.out _).mono ?_
  rintro e w2 ⟨vu, rfl, hu, k1⟩
  obtain ⟨Au, cu, rfl, ru, bu⟩ := own_rd hu
  replace bx := bx.keep k1 id
  replace gK := keepN gK k1
  replace ro := rd_n ro k1
  have s2 := k1.size
  clear hu k1 x0 x1 x2
  obtain ⟨x0, x1, x2⟩ := blk_inst bx
  go_wp2_with fail
  refine (HY.out _).mono ?_
  rintro e w3 ⟨vv, rfl, hv, k1⟩
  obtain ⟨Av, cv, rfl, rv, bv⟩ := own_rd hv
  replace bx := bx.keep k1 id
  replace gK := keepN gK k1
  replace ro := rd_n ro k1
  replace ru := rd_n ru k1
  have s3 := k1.size
  have hxlt := bx.lt
  clear hv k1 x0 x1 x2
  go_wp2_with fail
  refine (V.on_any _ Ao l co ro HL.out).mono ?_
  rintro e w4 ⟨br, rfl, hR, k1⟩
  replace bx := bx.keep k1 id
  replace gK := keepN gK k1
  replace ro := rd_n ro k1
  replace ru := rd_n ru k1
  replace rv := rd_n rv k1
  have s4 := k1.size
  have hbr : w3.heap.size ≤ br := hR.1
  have hR := reel_new hR
  have hbr2 : br < w4.heap.size := reel_lt hR
  clear k1
  go_wp2_with fail
  refine (V.twin_any _ A l c (rd_n hr.out gK) HL.out).mono ?_
  rintro e w5 ⟨vb, rfl, hb, k1⟩
  obtain ⟨Ab, cb, rfl, hcb, rb, hAb, hmb⟩ := hb.form
  have bb : ∀ ad, Ab = some ad → ad.block < w5.heap.size := fun ad e => (hb.1.lt ad.block (by rw [e]; rfl)).2
  have s5 := k1.size
  replace k1 := k1.alloc (.cells #[.slice Ab l.length cb, .int .i64 0] 35)
  replace bx := bx.keep k1 id
  replace gK := keepN gK k1
  replace ro := rd_n ro k1
  replace ru := rd_n ru k1
  replace rv := rd_n rv k1
  replace hR := hR.keep k1 (fun _ _ => id)
  have hS : V.RefAt (w5.alloc (.cells #[.slice Ab l.length cb, .int .i64 0] 35)) w5.heap.size (fun k => w4.heap.size ≤ k ∧ k < (w5.alloc (.cells #[.slice Ab l.length cb, .int .i64 0] 35)).heap.size) l 0 :=
    ⟨⟨s5, by simp⟩, Nat.zero_le _, Ab, cb, Blk.new _ _ _, rd_n rb ((Keep.refl NoB w5).alloc _), hcb, hmb, fun ad e => ⟨⟨(hAb ad e).1, by have := bb ad e; simp; omega⟩, by have := bb ad e; simp; omega⟩⟩
  clear k1 hb rb hAb hcb hmb bb
  have s6 : (w5.alloc (.cells #[.slice Ab l.length cb, .int .i64 0] 35)).heap.size = w5.heap.size + 1 := by simp
  go_wp2_with fail
  refine (HD1.out _ br _ (fun k hk => by omega) hR).mono ?_
  rintro e w7 ⟨rfl, hR, k1⟩
  dsimp only at hR
  have s7 := k1.size
  replace ro := rd_br ro (B := w3.heap.size) (fun ad e => by have := bo ad e; omega) hbr k1
  replace ru := rd_br ru (B := w3.heap.size) (fun ad e => by have := bu ad e; omega) hbr k1
  replace rv := rd_br rv (B := w3.heap.size) (fun ad e => by have := bv ad e; omega) hbr k1
  replace bx := bx.keep k1 (fun e => by omega)
  replace hS := hS.keep k1 (fun k ho e => by omega)
  replace gK := keep_br gK k1 (by omega)
  have k2 := (Keep.refl NoB w7).alloc (.cells #[.int .i64 dop, .int .i64 da, .int .i64 db] 23)
  have by_ := Blk.new w7 23 #[.int .i64 dop, .int .i64 da, .int .i64 db]
  replace ro := rd_n ro k2
  replace ru := rd_n ru k2
  replace rv := rd_n rv k2
  replace bx := bx.keep k2 id
  replace hS := hS.keep k2 (fun _ _ => id)
  replace hR := hR.keep k2 (fun _ _ => id)
  replace gK := keepN gK k2
  clear k1 k2
  go_wp2_with fail
  refine (HD2.out _ w5.heap.size _ (fun k hk => by simp; omega) hS).mono ?_
  rintro e w8 ⟨rfl, hS, k1⟩
  dsimp only at hS
  have s8 := k1.size
  replace ro := rd_br ro (B := w3.heap.size) (fun ad e => by have := bo ad e; omega) (by omega) k1
  replace ru := rd_br ru (B := w3.heap.size) (fun ad e => by have := bu ad e; omega) (by omega) k1
  replace rv := rd_br rv (B := w3.heap.size) (fun ad e => by have := bv ad e; omega) (by omega) k1
  replace bx := bx.keep k1 (fun e => by omega)
  replace by_ := by_.keep k1 (fun e => by omega)
  replace hR := hR.keep k1 (fun k ho e => by omega)
  replace gK := keep_br gK k1 (by omega)
  have k2 := (Keep.refl NoB w8).alloc (.cells #[.int .i64 dop, .int .i64 da, .int .i64 db] 23)
  have bz := Blk.new w8 23 #[.int .i64 dop, .int .i64 da, .int .i64 db]
  replace ro := rd_n ro k2
  replace ru := rd_n ru k2
  replace rv := rd_n rv k2
  replace bx := bx.keep k2 id
  replace by_ := by_.keep k2 id
  replace hS := hS.keep k2 (fun _ _ => id)
  replace hR := hR.keep k2 (fun _ _ => id)
  replace gK := keepN gK k2
  have rb := rd_n hr.out gK
  clear k1 k2
  obtain ⟨w9, hw9⟩ : ∃ w9, w8.alloc (.cells #[.int .i64 dop, .int .i64 da, .int .i64 db] 23) = w9 := ⟨_, rfl⟩
  rw [hw9] at ro ru rv bx by_ bz hS hR gK rb
  have HW := Lib.hid hw9
  clear hw9
  go_wp2_with fail
  rw [HW.out]
  refine wp_region_sh ((0, false) :: (1, false) :: (2, false) :: (3, false) :: (4, false) :: (5, false) :: (6, false) :: (7, false) :: (8, false) :: (9, false) :: (10, false) :: (11, false) :: (12, false) :: (13, false) :: (14, false) :: (15, false) :: (16, false) :: (17, false) :: (18, false) :: (19, false) :: (20, false) :: (21, false) :: (22, false) :: (23, false) :: (24, false) :: (25, false) :: (26, false) :: (27, false) :: (28, false) :: (29, false) :: (30, false) :: (31, false) :: (32, false) :: (33, false) :: (34, false) :: (35, false) :: (36, false) :: (37, false) :: (38, false) :: (39, false) :: (40, false) :: (41, false) :: (42, false) :: (43, false) :: (44, false) :: (45, false) :: (46, false) :: (47, false) :: []) (fun w' => Keep NoB w9 w') (by kernel_rfl) (by kernel_rfl) (by rfl) (by kernel_rfl) (stable_keep w9) (Keep.refl NoB w9).drew ?_
  refine shM_step rfl rfl rfl (by rfl) (by rfl) ?_
  apply Exists.intro
  refine ⟨fun n K hK => ?_, ?_, ?_⟩
  · go_big_quiet_op
    exact hK _ rfl
  · kernel_rfl
  refine shM_step rfl rfl rfl (by rfl) (by rfl) ?_
  apply Exists.intro
  refine ⟨fun n K hK => ?_, ?_, ?_⟩
  · have cu_ : ∀ m : KW n.w, (convert 24 9 (.slice Au (encI op a b).length cu)).run Tryz.prog m.w = .ok (.string E) m.w := fun m => by have := V.conv_rd (c := cu) (rd_n ru (keepN n.has m.keep)); rw [show V.str (encI op a b) = E from hE.out] at this; exact this
    go_big_quiet_op
    exact hK _ rfl
  · kernel_rfl
  refine shM_step rfl rfl rfl (by rfl) (by rfl) ?_
  apply Exists.intro
  refine ⟨fun n K hK => ?_, ?_, ?_⟩
  · go_big_quiet_op
    exact hK _ rfl
  · kernel_rfl
  refine shM_step rfl rfl rfl (by rfl) (by rfl) ?_
  apply Exists.intro
  refine ⟨fun n K hK => ?_, ?_, ?_⟩
  · have cv_ : ∀ m : KW n.w, (convert 24 9 (.slice Av (encI op a b).length cv)).run Tryz.prog m.w = .ok (.string E) m.w := fun m => by have := V.conv_rd (c := cv) (rd_n rv (keepN n.has m.keep)); rw [show V.str (encI op a b) = E from hE.out] at this; exact this
    go_big_quiet_op
    exact hK _ rfl
  · kernel_rfl
  refine shM_step rfl rfl rfl (by rfl) (by rfl) ?_
  apply Exists.intro
  refine ⟨fun n K hK => ?_, ?_, ?_⟩
  · go_big_quiet_op
    exact hK _ rfl
  · kernel_rfl
  refine shM_step rfl rfl rfl (by rfl) (by rfl) ?_
  apply Exists.intro
  refine ⟨fun n K hK => ?_, ?_, ?_⟩
  · go_big_quiet_op
    exact hK _ rfl
  · kernel_rfl
  refine shM_step rfl rfl rfl (by rfl) (by rfl) ?_
  apply Exists.intro
  refine ⟨fun n K hK => ?_, ?_, ?_⟩
  · go_big_quiet_op
    exact hK _ rfl
  · kernel_rfl
  refine shM_step rfl rfl rfl (by rfl) (by rfl) ?_
  apply Exists.intro
  refine ⟨fun n K hK => ?_, ?_, ?_⟩
  · go_big_quiet_op
    exact hK _ rfl
  · kernel_rfl
  refine shM_step rfl rfl rfl (by rfl) (by rfl) ?_
  apply Exists.intro
  refine ⟨fun n K hK => ?_, ?_, ?_⟩
  · go_big_quiet_op
    exact hK _ rfl
  · kernel_rfl
  refine shM_step rfl rfl rfl (by rfl) (by rfl) ?_
  apply Exists.intro
  refine ⟨fun n K hK => ?_, ?_, ?_⟩
  · go_big_quiet_op
    exact hK _ rfl
  · kernel_rfl
  refine shM_step rfl rfl rfl (by rfl) (by rfl) ?_
  apply Exists.intro
  refine ⟨fun n K hK => ?_, ?_, ?_⟩
  · go_big_quiet_op
    exact hK _ rfl
  · kernel_rfl
  refine shM_step rfl rfl rfl (by rfl) (by rfl) ?_
  apply Exists.intro
  refine ⟨fun n K hK => ?_, ?_, ?_⟩
  · have y0 : ∀ m : KW n.w, m.w.cell? ⟨w7.heap.size, 0, none⟩ = some (.int .i64 dop) := fun m => (by_.keep (keepN n.has m.keep) id).cell 0
    have y1 : ∀ m : KW n.w, m.w.cell? ⟨w7.heap.size, 1, none⟩ = some (.int .i64 da) := fun m => (by_.keep (keepN n.has m.keep) id).cell 1
    have y2 : ∀ m : KW n.w, m.w.cell? ⟨w7.heap.size, 2, none⟩ = some (.int .i64 db) := fun m => (by_.keep (keepN n.has m.keep) id).cell 2
    go_big_quiet_op
    exact hK _ rfl
  · kernel_rfl
  refine shM_step rfl rfl rfl (by rfl) (by rfl) ?_
  apply Exists.intro
  refine ⟨fun n K hK => ?_, ?_, ?_⟩
  · have z0 : ∀ m : KW n.w, m.w.cell? ⟨w8.heap.size, 0, none⟩ = some (.int .i64 dop) := fun m => (bz.keep (keepN n.has m.keep) id).cell 0
    have z1 : ∀ m : KW n.w, m.w.cell? ⟨w8.heap.size, 1, none⟩ = some (.int .i64 da) := fun m => (bz.keep (keepN n.has m.keep) id).cell 1
    have z2 : ∀ m : KW n.w, m.w.cell? ⟨w8.heap.size, 2, none⟩ = some (.int .i64 db) := fun m => (bz.keep (keepN n.has m.keep) id).cell 2
    go_big_quiet_op
    exact hK _ rfl
  · kernel_rfl
  refine shM_step rfl rfl rfl (by rfl) (by rfl) ?_
  apply Exists.intro
  refine ⟨fun n K hK => ?_, ?_, ?_⟩
  · go_big_quiet_op
    exact hK _ rfl
  · kernel_rfl
  refine shM_step rfl rfl rfl (by rfl) (by rfl) ?_
  apply Exists.intro
  refine ⟨fun n K hK => ?_, ?_, ?_⟩
  · go_big_quiet_op
    exact hK _ rfl
  · kernel_rfl
  refine shM_step rfl rfl rfl (by rfl) (by rfl) ?_
  apply Exists.intro
  refine ⟨fun n K hK => ?_, ?_, ?_⟩
  · go_big_quiet_op
    exact hK _ rfl
  · kernel_rfl
  refine shM_step rfl rfl rfl (by rfl) (by rfl) ?_
  apply Exists.intro
  refine ⟨fun n K hK => ?_, ?_, ?_⟩
  · go_big_quiet_op
    exact hK _ rfl
  · kernel_rfl
  refine shM_step rfl rfl rfl (by rfl) (by rfl) ?_
  apply Exists.intro
  refine ⟨fun n K hK => ?_, ?_, ?_⟩
  · go_big_quiet_op
    exact hK _ rfl
  · kernel_rfl
  refine shM_step rfl rfl rfl (by rfl) (by rfl) ?_
  apply Exists.intro
  refine ⟨fun n K hK => ?_, ?_, ?_⟩
  · go_big_quiet_op
    exact hK _ rfl
  · kernel_rfl
  refine shM_step rfl rfl rfl (by rfl) (by rfl) ?_
  apply Exists.intro
  refine ⟨fun n K hK => ?_, ?_, ?_⟩
  · go_big_quiet_op
    exact hK _ rfl
  · kernel_rfl
  refine shM_step rfl rfl rfl (by rfl) (by rfl) ?_
  apply Exists.intro
  refine ⟨fun n K hK => ?_, ?_, ?_⟩
  · go_big_quiet_op
    exact hK _ rfl
  · kernel_rfl
  refine shM_step rfl rfl rfl (by rfl) (by rfl) ?_
  apply Exists.intro
  refine ⟨fun n K hK => ?_, ?_, ?_⟩
  · go_big_quiet_op
    exact hK _ rfl
  · kernel_rfl
  refine shM_step rfl rfl rfl (by rfl) (by rfl) ?_
  apply Exists.intro
  refine ⟨fun n K hK => ?_, ?_, ?_⟩
  · go_big_quiet_op
    exact hK _ rfl
  · kernel_rfl
  refine shM_step rfl rfl rfl (by rfl) (by rfl) ?_
  apply Exists.intro
  refine ⟨fun n K hK => ?_, ?_, ?_⟩
  · go_big_quiet_op
    exact hK _ rfl
  · kernel_rfl
  refine shM_skip rfl (by kernel_rfl) (by kernel_rfl) ?_
  refine shM_skip rfl (by kernel_rfl) (by kernel_rfl) ?_
  refine shM_skip rfl (by kernel_rfl) (by kernel_rfl) ?_
  refine shM_skip rfl (by kernel_rfl) (by kernel_rfl) ?_
  refine shM_skip rfl (by kernel_rfl) (by kernel_rfl) ?_
  refine shM_skip rfl (by kernel_rfl) (by kernel_rfl) ?_
  refine shM_skip rfl (by kernel_rfl) (by kernel_rfl) ?_
  refine shM_step rfl rfl rfl (by rfl) (by rfl) ?_
  apply Exists.intro
  refine ⟨fun n K hK => ?_, ?_, ?_⟩
  · go_big_quiet_op
    exact hK _ rfl
  · kernel_rfl
  refine shM_step rfl rfl rfl (by rfl) (by rfl) ?_
  apply Exists.intro
  refine ⟨fun n K hK => ?_, ?_, ?_⟩
  · go_big_quiet_op
    exact hK _ rfl
  · kernel_rfl
  refine shM_step rfl rfl rfl (by rfl) (by rfl) ?_
  apply Exists.intro
  refine ⟨fun n K hK => ?_, ?_, ?_⟩
  · go_big_quiet_op
    exact hK _ rfl
  · kernel_rfl
  refine shM_step rfl rfl rfl (by rfl) (by rfl) ?_
  apply Exists.intro
  refine ⟨fun n K hK => ?_, ?_, ?_⟩
  · have x0 : ∀ m : KW n.w, m.w.cell? ⟨w.heap.size, 0, none⟩ = some (.int .i64 op) := fun m => (bx.keep (keepN n.has m.keep) id).cell 0
    have x1 : ∀ m : KW n.w, m.w.cell? ⟨w.heap.size, 1, none⟩ = some (.int .i64 a) := fun m => (bx.keep (keepN n.has m.keep) id).cell 1
    have x2 : ∀ m : KW n.w, m.w.cell? ⟨w.heap.size, 2, none⟩ = some (.int .i64 b) := fun m => (bx.keep (keepN n.has m.keep) id).cell 2
    go_big_quiet_op
    exact hK _ rfl
  · kernel_rfl
  refine shM_step rfl rfl rfl (by rfl) (by rfl) ?_
  apply Exists.intro
  refine ⟨fun n K hK => ?_, ?_, ?_⟩
  · go_big_quiet_op
    apply Exists.intro
    refine ⟨fun m => ?_, ?_⟩
    · go_at_call 14
      exact kept_of (check_genF op a b k _ hk.out)
    · exact hK _ rfl
  · kernel_rfl
  refine shM_step rfl rfl rfl (by rfl) (by rfl) ?_
  apply Exists.intro
  refine ⟨fun n K hK => ?_, ?_, ?_⟩
  · have x0 : ∀ m : KW n.w, m.w.cell? ⟨w.heap.size, 0, none⟩ = some (.int .i64 op) := fun m => (bx.keep (keepN n.has m.keep) id).cell 0
    have x1 : ∀ m : KW n.w, m.w.cell? ⟨w.heap.size, 1, none⟩ = some (.int .i64 a) := fun m => (bx.keep (keepN n.has m.keep) id).cell 1
    have x2 : ∀ m : KW n.w, m.w.cell? ⟨w.heap.size, 2, none⟩ = some (.int .i64 b) := fun m => (bx.keep (keepN n.has m.keep) id).cell 2
    go_big_quiet_op
    exact hK _ rfl
  · kernel_rfl
  refine shM_step rfl rfl rfl (by rfl) (by rfl) ?_
  apply Exists.intro
  refine ⟨fun n K hK => ?_, ?_, ?_⟩
  · go_big_quiet_op
    apply Exists.intro
    refine ⟨fun m => ?_, ?_⟩
    · go_at_call 15
      exact kept_of (HRC.out _)
    · exact hK _ rfl
  · kernel_rfl
  refine shM_step rfl rfl rfl (by rfl) (by rfl) ?_
  apply Exists.intro
  refine ⟨fun n K hK => ?_, ?_, ?_⟩
  · go_big_quiet_op
    exact hK _ rfl
  · kernel_rfl
  refine shM_step rfl rfl rfl (by rfl) (by rfl) ?_
  apply Exists.intro
  refine ⟨fun n K hK => ?_, ?_, ?_⟩
  · go_big_quiet_op
    exact hK _ rfl
  · kernel_rfl
  refine shM_step rfl rfl rfl (by rfl) (by rfl) ?_
  apply Exists.intro
  refine ⟨fun n K hK => ?_, ?_, ?_⟩
  · go_big_quiet_op
    exact hK _ rfl
  · kernel_rfl
  refine shM_step rfl rfl rfl (by rfl) (by rfl) ?_
  apply Exists.intro
  refine ⟨fun n K hK => ?_, ?_, ?_⟩
  · go_big_quiet_op
    exact hK _ rfl
  · kernel_rfl
  refine shM_step rfl rfl rfl (by rfl) (by rfl) ?_
  apply Exists.intro
  refine ⟨fun n K hK => ?_, ?_, ?_⟩
  · have co_ : ∀ m : KW n.w, (convert 24 9 (.slice Ao l.length co)).run Tryz.prog m.w = .ok (.string D) m.w := fun m => by have := V.conv_rd (c := co) (rd_n ro (keepN n.has m.keep)); rw [show V.str l = D from hD.out] at this; exact this
    go_big_quiet_op
    exact hK _ rfl
  · kernel_rfl
  refine shM_step rfl rfl rfl (by rfl) (by rfl) ?_
  apply Exists.intro
  refine ⟨fun n K hK => ?_, ?_, ?_⟩
  · go_big_quiet_op
    exact hK _ rfl
  · kernel_rfl
  refine shM_step rfl rfl rfl (by rfl) (by rfl) ?_
  apply Exists.intro
  refine ⟨fun n K hK => ?_, ?_, ?_⟩
  · have cb_ : ∀ m : KW n.w, (convert 24 9 (.slice A l.length c)).run Tryz.prog m.w = .ok (.string D) m.w := fun m => by have := V.conv_rd (c := c) (rd_n rb (keepN n.has m.keep)); rw [show V.str l = D from hD.out] at this; exact this
    go_big_quiet_op
    exact hK _ rfl
  · kernel_rfl
  refine shM_step rfl rfl rfl (by rfl) (by rfl) ?_
  apply Exists.intro
  refine ⟨fun n K hK => ?_, ?_, ?_⟩
  · go_big_quiet_op
    exact hK _ rfl
  · kernel_rfl
  refine shM_step rfl rfl rfl (by rfl) (by rfl) ?_
  apply Exists.intro
  refine ⟨fun n K hK => ?_, ?_, ?_⟩
  · go_big_quiet_op
    exact hK _ rfl
  · kernel_rfl
  refine shM_step rfl rfl rfl (by rfl) (by rfl) ?_
  apply Exists.intro
  refine ⟨fun n K hK => ?_, ?_, ?_⟩
  · go_big_quiet_op
    exact hK _ rfl
  · kernel_rfl
  refine shM_nil (fun n => ?_)
  have k5 := n.has
  generalize n.w = w10 at k5 ⊢
  go_wp2
  go_ret
  exact ⟨rfl, keepN gK k5⟩

theorem forms_walk (op a b : Int) (A : Option Addr) (l : List UInt8) (c : Nat) (w : World) (ha : I64 a) (hb : I64 b) (hr : V.Rd w A l) :
    Calls Tryz.prog 3 #[instV op a b, .slice A l.length c] w fun e w' => e = .returned (.bool true) ∧ Keep NoB w w' := by
  by_cases h : l.length ≤ 100
  · by_cases he : (decI l 0).er = 0
    · exact forms_ok op a b A l c w ⟨ha, hb⟩ hr h _ rfl he _ rfl _ rfl _ rfl
    · exact forms_no op a b A l c w ⟨ha, hb⟩ hr h _ rfl he _ rfl _ rfl _ rfl
  · exact forms_big op a b A l.length c w (by omega)

end Go.Proofs.YtpkcjokkadfhcaaGreatDoor.O
