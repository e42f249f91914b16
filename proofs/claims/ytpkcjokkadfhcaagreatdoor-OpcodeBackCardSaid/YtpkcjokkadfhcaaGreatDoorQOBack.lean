/-
  OpcodeBack's walk: an instruction is read from its bytes, whatever stands behind them, and from its text, as it was; what is read of any bytes, and any text, has just these. Conditions: the listed package-level variables hold what their initialisers lay; numbers fit an int64; the bytes stand.
-/
import Derived.Test.YtpkcjokkadfhcaaGreatDoorQOForms
import Derived.Test.YtpkcjokkadfhcaaGreatDoorQ10
namespace Go.Proofs.YtpkcjokkadfhcaaGreatDoor.O
open Go.RowKit

theorem bytesI_len (op a b : Int) : (bytesI op a b).length ≤ 27 := by
  unfold bytesI
  have h1 := V.encL_len op.toNat
  have h2 := encP_len (rowAt op).ka a
  have h3 := encP_len (rowAt op).kb b
  simp
  omega
theorem partL_len (k n : Int) (hn : I64 n) : (partL k n).length ≤ 22 := by
  unfold partL
  have := word_len k n hn
  split
  · simp
  · simp; omega
theorem textI_len (op a b : Int) (ha : I64 a) (hb : I64 b) : (textI op a b).length ≤ 51 := by
  unfold textI
  have h1 := name_len op
  have h2 := partL_len (rowAt op).ka a ha
  have h3 := partL_len (rowAt op).kb b hb
  simp
  omega
theorem read_own (op a b : Int) (w : World) (hok : okI op a b = true) (ha : I64 a) (hb : I64 b) (hL : LaidO w) (hC : CutAt w) :
    Calls Tryz.prog 24 #[.string (str (textI op a b))] w fun e w' => e = .returned (.tuple #[instV op a b, .int .i64 0]) ∧ Keep NoB w w' := by
  have hl := textI_len op a b ha hb
  refine (read_text (str (textI op a b)) (textI op a b) w (str_list _) (by rw [str_size]; omega) hL hC).mono ?_
  rintro e w' ⟨v, rfl, hv, hk⟩
  rw [readV_one hv (.inl ⟨op, a, b, hok, rfl, rfl⟩)]
  exact ⟨rfl, hk⟩
theorem show_ok (op a b : Int) (w : World) (hok : okI op a b = true) (ha : I64 a) (hb : I64 b) (hL : LaidO w) :
    Calls Tryz.prog 31 #[instV op a b] w fun e w' => e = .returned (.string (str (textI op a b))) ∧ Keep NoB w w' := by
  have h := show_any op a b w ha hb hL
  unfold showI at h
  rw [if_pos hok] at h
  exact h
theorem encode_ok (op a b : Int) (w : World) (hok : okI op a b = true) (ha : I64 a) (hb : I64 b) :
    Calls Tryz.prog 8 #[instV op a b] w fun e w' => ∃ v, e = .returned (.tuple #[v, .int .i64 0]) ∧ V.OwnB w' (Fresh w) v (bytesI op a b) ∧ Keep NoB w w' := by
  have h := encode_any op a b w ha hb
  unfold encI chk at h
  rw [if_pos hok, if_pos hok] at h
  exact h
theorem encode_no (op a b : Int) (w : World) (hok : okI op a b = false) (ha : I64 a) (hb : I64 b) :
    Calls Tryz.prog 8 #[instV op a b] w fun e w' => ∃ v, e = .returned (.tuple #[v, .int .i64 40]) ∧ V.OwnB w' (Fresh w) v [] ∧ Keep NoB w w' := by
  have h := encode_any op a b w ha hb
  have hn : ¬ okI op a b = true := by rw [hok]; decide
  unfold encI chk at h
  rw [if_neg hn, if_neg hn] at h
  exact h
theorem bytes_ok (op a b : Int) (w : World) (hok : okI op a b = true) (ha : I64 a) (hb : I64 b) :
    Calls Tryz.prog 36 #[instV op a b] w fun e w' => e = .returned (.string (str (bytesI op a b))) ∧ Keep NoB w w' := by
  have h := bytes_any op a b w ha hb
  unfold encI at h
  rw [if_pos hok] at h
  exact h
theorem check_ok (op a b : Int) (w : World) (hok : okI op a b = true) :
    Calls Tryz.prog 14 #[instV op a b] w fun e w' => e = .returned (.int .i64 0) ∧ Keep NoB w w' := by
  have h := check_any op a b w
  unfold chk at h
  rw [if_pos hok] at h
  exact h
theorem made_own (w : World) : V.OwnB (w.alloc (.cells #[] 5)) (Fresh w) (.slice (some ⟨w.heap.size, 0, none⟩) 0 0) [] :=
  ⟨World.ownsRow_made (e := 5) (size := 1) (base := 0) w #[] 0 (Nat.zero_le _) (Nat.zero_le _) rfl, fun g e => by simp [Value.ownBlock] at e; subst e; exact Nat.le_refl _⟩
theorem ok_i64 {op a b : Int} (h : okI op a b = true) : I64 a ∧ I64 b := ⟨(in_bounds (ok_op h).2.1).1, (in_bounds (ok_op h).2.2).1⟩
theorem rd_take {w : World} {A : Option Addr} {l : List UInt8} (h : V.Rd w A l) (k : Nat) : V.Rd w A (l.take k) := fun h0 => by
  have h1 : 0 < l.length := by simp at h0; omega
  obtain ⟨ad, e, hc⟩ := h h1
  refine ⟨ad, e, fun j u hu => hc j u ?_⟩
  simp only [V.bvs] at hu ⊢
  rw [List.map_take] at hu
  obtain ⟨hj, hv⟩ := List.getElem?_eq_some_iff.1 hu
  rw [List.getElem_take] at hv
  exact List.getElem?_eq_some_iff.2 ⟨_, hv⟩

set_option maxRecDepth 100000 in
set_option maxHeartbeats 1000000 in
theorem back_big (op a b : Int) (A : Option Addr) (n c : Nat) (S : ByteArray) (w : World) (hL : Hid (LaidO w)) (h : 100 < n ∨ 100 < S.size) :
    Calls Tryz.prog 6 #[instV op a b, .slice A n c, .string S] w fun e w' => e = .returned (.bool true) ∧ Keep NoB w w' := by
  have gK := (Keep.refl NoB w).alloc (.cells #[.int .i64 op, .int .i64 a, .int .i64 b] 23)
  by_cases h1 : 100 < n
  · have hq : decide ((100 : Int) < (n : Int)) = true := by rw [decide_eq_true_iff]; omega
    clear h h1
    go_enter Tryz.func6, Tryz.ntmps6
    go_wp2_with fail
    refine (alive_any _ (hL.out.keep gK)).mono ?_
    rintro e w1 ⟨rfl, k1⟩
    go_wp2
    go_ret
    exact ⟨rfl, keepN gK k1⟩
  · have hq : decide ((100 : Int) < (n : Int)) = false := by rw [decide_eq_false_iff_not]; omega
    have hq2 : decide ((100 : Int) < (S.size : Int)) = true := by rw [decide_eq_true_iff]; omega
    clear h h1
    go_enter Tryz.func6, Tryz.ntmps6
    go_wp2_with fail
    refine (alive_any _ (hL.out.keep gK)).mono ?_
    rintro e w1 ⟨rfl, k1⟩
    go_wp2
    go_ret
    exact ⟨rfl, keepN gK k1⟩

set_option maxRecDepth 100000 in
set_option maxHeartbeats 4000000 in
theorem back_yy (op a b : Int) (A : Option Addr) (l : List UInt8) (c : Nat) (S : ByteArray) (s : List UInt8) (w : World) (hL : Hid (LaidO w)) (hC : Hid (CutAt w)) (hI : Hid (I64 a ∧ I64 b)) (hr : Hid (V.Rd w A l)) (hc : l.length ≤ c) (hs : Hid (S.data.toList = s)) (h : l.length ≤ 100) (hS : S.size ≤ 100) (hok : Hid (okI op a b = true)) (d : Dec) (hd : decI l 0 = d) (her : d.er = 0) :
    Calls Tryz.prog 6 #[instV op a b, .slice A l.length c, .string S] w fun e w' => e = .returned (.bool true) ∧ Keep NoB w w' := by
  have HL : Hid (l.length ≤ 140737488355328) := by show _ ≤ _; omega
  have HSZ : Hid (S.size ≤ 1000) := by show _ ≤ _; omega
  have HLE : Hid (l.length ≤ 100) := h
  have hq : decide ((100 : Int) < (l.length : Int)) = false := by rw [decide_eq_false_iff_not]; omega
  have hq2 : decide ((100 : Int) < (S.size : Int)) = false := by rw [decide_eq_false_iff_not]; omega
  clear h hS
  have HD1 := Lib.hid (fun w br O hO h => decode_any w br O l 0 hO h HL.out)
  rw [hd] at HD1
  have HOK := decI_ok (l := l) (p := 0) (by rw [hd]; exact her)
  rw [hd] at HOK
  obtain ⟨dop, da, db, der, dpl⟩ := d
  dsimp only at her HOK HD1
  subst her
  have HOK2 : Hid (okI dop da db = true) := HOK.1
  have HI2 := Lib.hid (ok_i64 HOK.1)
  have HT : Hid (l.take dpl = bytesI dop da db) := by
    show _ = _
    have h1 := HOK.2.1
    have h2 := HOK.2.2
    rw [List.drop_zero] at h1
    rw [Nat.zero_add] at h2
    rw [h2]
    conv => lhs; rw [h1]
    rw [List.take_left]
  have hpl : dpl ≤ l.length := by
    have h1 := congrArg List.length HOK.2.1
    have h2 := HOK.2.2
    simp at h1
    omega
  have HTL := Lib.hid (show (l.take dpl).length = dpl by simp; omega)
  clear HOK hd
  have qY : ∀ T : ByteArray, (T.toList == T.toList) = true := fun T => list_self T
  have bx := Blk.new w 23 #[.int .i64 op, .int .i64 a, .int .i64 b]
  have gK := (Keep.refl NoB w).alloc (.cells #[.int .i64 op, .int .i64 a, .int .i64 b] 23)
  go_enter Tryz.func6, Tryz.ntmps6
  go_wp2_with fail
  refine (alive_any _ (hL.out.keep gK)).mono ?_
  rintro e w1 ⟨rfl, k1⟩
  replace bx := bx.keep k1 id
  replace gK := keepN gK k1
  clear k1
  obtain ⟨x0, x1, x2⟩ := blk_inst bx
  go_wp2_with fail
  refine (encode_ok op a b _ hok.out hI.out.1 hI.out.2).mono ?_
  rintro e w2 ⟨vu, rfl, hu, k1⟩
  replace bx := bx.keep k1 id
  replace gK := keepN gK k1
  clear k1 x0 x1 x2
  obtain ⟨Au, cu, rfl, ru, bu⟩ := own_rd hu
  have hel := bytesI_len op a b
  obtain ⟨E, hE⟩ : ∃ E, Hid (bytesI op a b = E) := ⟨_, rfl⟩
  rw [hE.out] at ru hel hu
  simp only [hE.out]
  have hm := made_own w2
  have ru2 := rd_n ru ((Keep.refl NoB w2).alloc (.cells #[] 5))
  go_wp2_with (first | (at_builtin; refine V.wpList_append_rd _ rfl _ _ rfl (.slice (some ⟨w2.heap.size, 0, none⟩) 0 0) [] E Au cu rfl hm.1 rfl ru2 (by simp; omega) ?_; intro v1 w3 hown hg hat; have hap := own_app hm ((Keep.refl NoB w2).alloc _) hown hg hat; rw [List.nil_append] at hap; have rb3 := rd_n hr.out (keepN gK hap.2); clear hown hg hat) | (at_builtin; refine V.wpList_append_rd _ rfl _ _ rfl v1 E l A c rfl hap.1.1 rfl rb3 (by have := HLE.out; omega) ?_; intro v2 w4 hown hg hat; have hap2 := own_app hap.1 hap.2 hown hg hat; clear hown hg hat))
  obtain ⟨A2, c2, rfl, r2, b2⟩ := own_rd hap2.1
  replace bx := bx.keep hap2.2 id
  replace gK := keepN gK hap2.2
  clear hap hap2 hm ru2 rb3 hu ru
  go_wp2_with fail
  refine (V.on_any _ A2 (E ++ l) c2 r2 (by have := HLE.out; simp; omega)).mono ?_
  rintro e w5 ⟨br, rfl, hR, k1⟩
  have hs4 := gK.size
  have hbx4 := bx.lt
  have hbr : w4.heap.size ≤ br := hR.1
  replace bx := bx.keep k1 id
  replace gK := keepN gK k1
  clear k1 r2 b2
  have hR := reel_new hR
  have HDE := Lib.hid (decI_enc (l := E ++ l) (s := l) (p := 0) hok.out (by rw [hE.out]; rfl))
  rw [hE.out] at HDE
  have HDD := Lib.hid (decode_any _ br _ (E ++ l) 0 (fun k hk => hk.2) hR (by have := HLE.out; simp; omega))
  rw [HDE.out] at HDD
  clear HDE
  go_wp2_with fail
  refine HDD.out.mono ?_
  rintro e w6 ⟨rfl, hR, k1⟩
  dsimp only at hR
  rw [Nat.zero_add] at hR
  have k2 := (Keep.refl NoB w6).alloc (.cells #[.int .i64 op, .int .i64 a, .int .i64 b] 23)
  have by_ := Blk.new w6 23 #[.int .i64 op, .int .i64 a, .int .i64 b]
  replace bx := (bx.keep k1 (fun e => by omega)).keep k2 id
  replace gK := keepN (keep_br gK k1 (by omega)) k2
  replace hR := hR.keep k2 (fun _ _ => id)
  clear k1 k2 HDD
  obtain ⟨x0, x1, x2⟩ := blk_inst bx
  go_wp2_with fail
  refine (show_ok op a b _ hok.out hI.out.1 hI.out.2 (hL.out.keep gK)).mono ?_
  rintro e w7 ⟨rfl, k1⟩
  replace bx := bx.keep k1 id
  replace by_ := by_.keep k1 id
  replace gK := keepN gK k1
  replace hR := hR.keep k1 (fun _ _ => id)
  clear k1 x0 x1 x2
  go_wp2_with fail
  refine (read_own op a b _ hok.out hI.out.1 hI.out.2 (hL.out.keep gK) (hC.out.keep gK)).mono ?_
  rintro e w8 ⟨rfl, k1⟩
  replace k1 := k1.alloc (.cells #[.int .i64 op, .int .i64 a, .int .i64 b] 23)
  have bz := Blk.new w8 23 #[.int .i64 op, .int .i64 a, .int .i64 b]
  replace bx := bx.keep k1 id
  replace by_ := by_.keep k1 id
  replace gK := keepN gK k1
  replace hR := hR.keep k1 (fun _ _ => id)
  clear k1
  obtain ⟨x0, x1, x2⟩ := blk_inst bx
  obtain ⟨y0, y1, y2⟩ := blk_inst by_
  obtain ⟨z0, z1, z2⟩ := blk_inst bz
  go_wp2_with fail
  refine (V.at_any _ br _ _ _ hR).mono ?_
  rintro e w9 ⟨rfl, rfl⟩
  have rb := rd_n hr.out gK
  clear hR
  go_wp2_with fail
  refine (V.on_any _ A l c rb HL.out).mono ?_
  rintro e v0 ⟨br2, rfl, hR, k1⟩
  have hbr2 : w.heap.size ≤ br2 := Nat.le_trans gK.size hR.1
  replace gK := keepN gK k1
  replace rb := rd_n rb k1
  clear k1
  have hR := reel_new hR
  go_wp2_with fail
  refine (HD1.out _ br2 _ (fun k hk => hk.2) hR).mono ?_
  rintro e v1 ⟨rfl, hR, k1⟩
  dsimp only at hR
  replace gK := keep_br gK k1 hbr2
  have k2 := (Keep.refl NoB v1).alloc (.cells #[.int .i64 dop, .int .i64 da, .int .i64 db] 23)
  have bw := Blk.new v1 23 #[.int .i64 dop, .int .i64 da, .int .i64 db]
  replace gK := keepN gK k2
  replace hR := hR.keep k2 (fun _ _ => id)
  have rb := rd_n hr.out gK
  clear k1 k2
  obtain ⟨y0, y1, y2⟩ := blk_inst bw
  go_wp2_with fail
  refine (bytes_ok dop da db _ HOK2.out HI2.out.1 HI2.out.2).mono ?_
  rintro e v2 ⟨rfl, k1⟩
  replace gK := keepN gK k1
  replace hR := hR.keep k1 (fun _ _ => id)
  replace bw := bw.keep k1 id
  replace rb := rd_n rb k1
  clear k1 y0 y1 y2
  go_wp2_with fail
  refine (V.at_any _ br2 _ _ _ hR).mono ?_
  rintro e v3 ⟨rfl, rfl⟩
  have hcv : ∀ c, (convert 24 9 (.slice A dpl c)).run Tryz.prog v2 = .ok (.string (str (bytesI dop da db))) v2 := fun c => by
    have := V.conv_rd (c := c) (rd_take rb dpl)
    rw [HTL.out, HT.out] at this
    exact this
  obtain ⟨y0, y1, y2⟩ := blk_inst bw
  generalize bytesI dop da db = F at *
  have qF := qY (str F)
  clear rb qY hR
  go_wp2_with fail
  refine (check_ok dop da db _ HOK2.out).mono ?_
  rintro e v3 ⟨rfl, k1⟩
  replace gK := keepN gK k1
  clear k1 y0 y1 y2 hcv
  go_wp2_with fail
  refine (read_text S s _ hs.out HSZ.out (hL.out.keep gK) (hC.out.keep gK)).mono ?_
  rintro e v4 ⟨vr, rfl, hv, k1⟩
  replace gK := keepN gK k1
  clear k1
  rcases hv with ⟨op2, a2, b2, hok2, ht, rfl⟩ | ⟨_, rfl⟩
  · have HOKR : Hid (okI op2 a2 b2 = true) := hok2
    have HIR := Lib.hid (ok_i64 hok2)
    have HTX : Hid (textI op2 a2 b2 = s) := ht
    have k2 := (Keep.refl NoB v4).alloc (.cells #[.int .i64 op2, .int .i64 a2, .int .i64 b2] 23)
    have bq := Blk.new v4 23 #[.int .i64 op2, .int .i64 a2, .int .i64 b2]
    replace gK := keepN gK k2
    obtain ⟨u0, u1, u2⟩ := blk_inst bq
    clear hok2 ht k2
    go_wp2_with fail
    refine (show_ok op2 a2 b2 _ HOKR.out HIR.out.1 HIR.out.2 (hL.out.keep gK)).mono ?_
    rintro e v5 ⟨rfl, k1⟩
    have qS : ((str (textI op2 a2 b2)).toList == S.toList) = true := by rw [eq_text hs.out]; exact decide_eq_true HTX.out
    generalize str (textI op2 a2 b2) = tx at *
    go_wp2
    go_ret
    exact ⟨rfl, keepN gK k1⟩
  · go_wp2
    go_ret
    exact ⟨rfl, gK.alloc _⟩

set_option maxRecDepth 100000 in
set_option maxHeartbeats 4000000 in
theorem back_yn (op a b : Int) (A : Option Addr) (l : List UInt8) (c : Nat) (S : ByteArray) (s : List UInt8) (w : World) (hL : Hid (LaidO w)) (hC : Hid (CutAt w)) (hI : Hid (I64 a ∧ I64 b)) (hr : Hid (V.Rd w A l)) (_hc : l.length ≤ c) (hs : Hid (S.data.toList = s)) (h : l.length ≤ 100) (hS : S.size ≤ 100) (hok : Hid (okI op a b = true)) (d : Dec) (hd : decI l 0 = d) (her : d.er ≠ 0) :
    Calls Tryz.prog 6 #[instV op a b, .slice A l.length c, .string S] w fun e w' => e = .returned (.bool true) ∧ Keep NoB w w' := by
  have HL : Hid (l.length ≤ 140737488355328) := by show _ ≤ _; omega
  have HSZ : Hid (S.size ≤ 1000) := by show _ ≤ _; omega
  have HLE : Hid (l.length ≤ 100) := h
  have hq : decide ((100 : Int) < (l.length : Int)) = false := by rw [decide_eq_false_iff_not]; omega
  have hq2 : decide ((100 : Int) < (S.size : Int)) = false := by rw [decide_eq_false_iff_not]; omega
  clear h hS
  have HD1 := Lib.hid (fun w br O hO h => decode_any w br O l 0 hO h HL.out)
  rw [hd] at HD1
  obtain ⟨dop, da, db, der, dpl⟩ := d
  dsimp only at her HD1
  have qe : ((der : Int) != 0) = true := by rw [bne_iff_ne]; omega
  have qe2 : ((der : Int) == 0) = false := by rw [beq_eq_false_iff_ne]; omega
  clear hd her
  have bx := Blk.new w 23 #[.int .i64 op, .int .i64 a, .int .i64 b]
  have gK := (Keep.refl NoB w).alloc (.cells #[.int .i64 op, .int .i64 a, .int .i64 b] 23)
  go_enter Tryz.func6, Tryz.ntmps6
  go_wp2_with fail
  refine (alive_any _ (hL.out.keep gK)).mono ?_
  rintro e w1 ⟨rfl, k1⟩
  replace bx := bx.keep k1 id
  replace gK := keepN gK k1
  clear k1
  obtain ⟨x0, x1, x2⟩ := blk_inst bx
  go_wp2_with fail
  refine (encode_ok op a b _ hok.out hI.out.1 hI.out.2).mono ?_
  rintro e w2 ⟨vu, rfl, hu, k1⟩
  replace bx := bx.keep k1 id
  replace gK := keepN gK k1
  clear k1 x0 x1 x2
  obtain ⟨Au, cu, rfl, ru, bu⟩ := own_rd hu
  have hel := bytesI_len op a b
  obtain ⟨E, hE⟩ : ∃ E, Hid (bytesI op a b = E) := ⟨_, rfl⟩
  rw [hE.out] at ru hel hu
  simp only [hE.out]
  have hm := made_own w2
  have ru2 := rd_n ru ((Keep.refl NoB w2).alloc (.cells #[] 5))
  go_wp2_with (first | (at_builtin; refine V.wpList_append_rd _ rfl _ _ rfl (.slice (some ⟨w2.heap.size, 0, none⟩) 0 0) [] E Au cu rfl hm.1 rfl ru2 (by simp; omega) ?_; intro v1 w3 hown hg hat; have hap := own_app hm ((Keep.refl NoB w2).alloc _) hown hg hat; rw [List.nil_append] at hap; have rb3 := rd_n hr.out (keepN gK hap.2); clear hown hg hat) | (at_builtin; refine V.wpList_append_rd _ rfl _ _ rfl v1 E l A c rfl hap.1.1 rfl rb3 (by have := HLE.out; omega) ?_; intro v2 w4 hown hg hat; have hap2 := own_app hap.1 hap.2 hown hg hat; clear hown hg hat))
  obtain ⟨A2, c2, rfl, r2, b2⟩ := own_rd hap2.1
  replace bx := bx.keep hap2.2 id
  replace gK := keepN gK hap2.2
  clear hap hap2 hm ru2 rb3 hu ru
  go_wp2_with fail
  refine (V.on_any _ A2 (E ++ l) c2 r2 (by have := HLE.out; simp; omega)).mono ?_
  rintro e w5 ⟨br, rfl, hR, k1⟩
  have hs4 := gK.size
  have hbx4 := bx.lt
  have hbr : w4.heap.size ≤ br := hR.1
  replace bx := bx.keep k1 id
  replace gK := keepN gK k1
  clear k1 r2 b2
  have hR := reel_new hR
  have HDE := Lib.hid (decI_enc (l := E ++ l) (s := l) (p := 0) hok.out (by rw [hE.out]; rfl))
  rw [hE.out] at HDE
  have HDD := Lib.hid (decode_any _ br _ (E ++ l) 0 (fun k hk => hk.2) hR (by have := HLE.out; simp; omega))
  rw [HDE.out] at HDD
  clear HDE
  go_wp2_with fail
  refine HDD.out.mono ?_
  rintro e w6 ⟨rfl, hR, k1⟩
  dsimp only at hR
  rw [Nat.zero_add] at hR
  have k2 := (Keep.refl NoB w6).alloc (.cells #[.int .i64 op, .int .i64 a, .int .i64 b] 23)
  have by_ := Blk.new w6 23 #[.int .i64 op, .int .i64 a, .int .i64 b]
  replace bx := (bx.keep k1 (fun e => by omega)).keep k2 id
  replace gK := keepN (keep_br gK k1 (by omega)) k2
  replace hR := hR.keep k2 (fun _ _ => id)
  clear k1 k2 HDD
  obtain ⟨x0, x1, x2⟩ := blk_inst bx
  go_wp2_with fail
  refine (show_ok op a b _ hok.out hI.out.1 hI.out.2 (hL.out.keep gK)).mono ?_
  rintro e w7 ⟨rfl, k1⟩
  replace bx := bx.keep k1 id
  replace by_ := by_.keep k1 id
  replace gK := keepN gK k1
  replace hR := hR.keep k1 (fun _ _ => id)
  clear k1 x0 x1 x2
  go_wp2_with fail
  refine (read_own op a b _ hok.out hI.out.1 hI.out.2 (hL.out.keep gK) (hC.out.keep gK)).mono ?_
  rintro e w8 ⟨rfl, k1⟩
  replace k1 := k1.alloc (.cells #[.int .i64 op, .int .i64 a, .int .i64 b] 23)
  have bz := Blk.new w8 23 #[.int .i64 op, .int .i64 a, .int .i64 b]
  replace bx := bx.keep k1 id
  replace by_ := by_.keep k1 id
  replace gK := keepN gK k1
  replace hR := hR.keep k1 (fun _ _ => id)
  clear k1
  obtain ⟨x0, x1, x2⟩ := blk_inst bx
  obtain ⟨y0, y1, y2⟩ := blk_inst by_
  obtain ⟨z0, z1, z2⟩ := blk_inst bz
  go_wp2_with fail
  refine (V.at_any _ br _ _ _ hR).mono ?_
  rintro e w9 ⟨rfl, rfl⟩
  have rb := rd_n hr.out gK
  clear hR
  go_wp2_with fail
  refine (V.on_any _ A l c rb HL.out).mono ?_
  rintro e v0 ⟨br2, rfl, hR, k1⟩
  have hbr2 : w.heap.size ≤ br2 := Nat.le_trans gK.size hR.1
  replace gK := keepN gK k1
  replace rb := rd_n rb k1
  clear k1
  have hR := reel_new hR
  go_wp2_with fail
  refine (HD1.out _ br2 _ (fun k hk => hk.2) hR).mono ?_
  rintro e v1 ⟨rfl, hR, k1⟩
  dsimp only at hR
  replace gK := keep_br gK k1 hbr2
  have k2 := (Keep.refl NoB v1).alloc (.cells #[.int .i64 dop, .int .i64 da, .int .i64 db] 23)
  have bw := Blk.new v1 23 #[.int .i64 dop, .int .i64 da, .int .i64 db]
  replace gK := keepN gK k2
  replace hR := hR.keep k2 (fun _ _ => id)
  have rb := rd_n hr.out gK
  clear k1 k2
  clear hR bw rb
  go_wp2_with fail
  refine (read_text S s _ hs.out HSZ.out (hL.out.keep gK) (hC.out.keep gK)).mono ?_
  rintro e v4 ⟨vr, rfl, hv, k1⟩
  replace gK := keepN gK k1
  clear k1
  rcases hv with ⟨op2, a2, b2, hok2, ht, rfl⟩ | ⟨_, rfl⟩
  · have HOKR : Hid (okI op2 a2 b2 = true) := hok2
    have HIR := Lib.hid (ok_i64 hok2)
    have HTX : Hid (textI op2 a2 b2 = s) := ht
    have k2 := (Keep.refl NoB v4).alloc (.cells #[.int .i64 op2, .int .i64 a2, .int .i64 b2] 23)
    have bq := Blk.new v4 23 #[.int .i64 op2, .int .i64 a2, .int .i64 b2]
    replace gK := keepN gK k2
    obtain ⟨u0, u1, u2⟩ := blk_inst bq
    clear hok2 ht k2
    go_wp2_with fail
    refine (show_ok op2 a2 b2 _ HOKR.out HIR.out.1 HIR.out.2 (hL.out.keep gK)).mono ?_
    rintro e v5 ⟨rfl, k1⟩
    have qS : ((str (textI op2 a2 b2)).toList == S.toList) = true := by rw [eq_text hs.out]; exact decide_eq_true HTX.out
    generalize str (textI op2 a2 b2) = tx at *
    go_wp2
    go_ret
    exact ⟨rfl, keepN gK k1⟩
  · go_wp2
    go_ret
    exact ⟨rfl, gK.alloc _⟩

set_option maxRecDepth 100000 in
set_option maxHeartbeats 4000000 in
theorem back_ny (op a b : Int) (A : Option Addr) (l : List UInt8) (c : Nat) (S : ByteArray) (s : List UInt8) (w : World) (hL : Hid (LaidO w)) (hC : Hid (CutAt w)) (hI : Hid (I64 a ∧ I64 b)) (hr : Hid (V.Rd w A l)) (hc : l.length ≤ c) (hs : Hid (S.data.toList = s)) (h : l.length ≤ 100) (hS : S.size ≤ 100) (hok : Hid (okI op a b = false)) (d : Dec) (hd : decI l 0 = d) (her : d.er = 0) :
    Calls Tryz.prog 6 #[instV op a b, .slice A l.length c, .string S] w fun e w' => e = .returned (.bool true) ∧ Keep NoB w w' := by
  have HL : Hid (l.length ≤ 140737488355328) := by show _ ≤ _; omega
  have HSZ : Hid (S.size ≤ 1000) := by show _ ≤ _; omega
  have HLE : Hid (l.length ≤ 100) := h
  have hq : decide ((100 : Int) < (l.length : Int)) = false := by rw [decide_eq_false_iff_not]; omega
  have hq2 : decide ((100 : Int) < (S.size : Int)) = false := by rw [decide_eq_false_iff_not]; omega
  clear h hS
  have HD1 := Lib.hid (fun w br O hO h => decode_any w br O l 0 hO h HL.out)
  rw [hd] at HD1
  have HOK := decI_ok (l := l) (p := 0) (by rw [hd]; exact her)
  rw [hd] at HOK
  obtain ⟨dop, da, db, der, dpl⟩ := d
  dsimp only at her HOK HD1
  subst her
  have HOK2 : Hid (okI dop da db = true) := HOK.1
  have HI2 := Lib.hid (ok_i64 HOK.1)
  have HT : Hid (l.take dpl = bytesI dop da db) := by
    show _ = _
    have h1 := HOK.2.1
    have h2 := HOK.2.2
    rw [List.drop_zero] at h1
    rw [Nat.zero_add] at h2
    rw [h2]
    conv => lhs; rw [h1]
    rw [List.take_left]
  have hpl : dpl ≤ l.length := by
    have h1 := congrArg List.length HOK.2.1
    have h2 := HOK.2.2
    simp at h1
    omega
  have HTL := Lib.hid (show (l.take dpl).length = dpl by simp; omega)
  clear HOK hd
  have qY : ∀ T : ByteArray, (T.toList == T.toList) = true := fun T => list_self T
  have bx := Blk.new w 23 #[.int .i64 op, .int .i64 a, .int .i64 b]
  have gK := (Keep.refl NoB w).alloc (.cells #[.int .i64 op, .int .i64 a, .int .i64 b] 23)
  go_enter Tryz.func6, Tryz.ntmps6
  go_wp2_with fail
  refine (alive_any _ (hL.out.keep gK)).mono ?_
  rintro e w1 ⟨rfl, k1⟩
  replace bx := bx.keep k1 id
  replace gK := keepN gK k1
  clear k1
  obtain ⟨x0, x1, x2⟩ := blk_inst bx
  go_wp2_with fail
  refine (encode_no op a b _ hok.out hI.out.1 hI.out.2).mono ?_
  rintro e w2 ⟨vu, rfl, hu, k1⟩
  replace bx := bx.keep k1 id
  replace gK := keepN gK k1
  clear k1 x0 x1 x2
  have rb := rd_n hr.out gK
  clear hu bx
  go_wp2_with fail
  refine (V.on_any _ A l c rb HL.out).mono ?_
  rintro e v0 ⟨br2, rfl, hR, k1⟩
  have hbr2 : w.heap.size ≤ br2 := Nat.le_trans gK.size hR.1
  replace gK := keepN gK k1
  replace rb := rd_n rb k1
  clear k1
  have hR := reel_new hR
  go_wp2_with fail
  refine (HD1.out _ br2 _ (fun k hk => hk.2) hR).mono ?_
  rintro e v1 ⟨rfl, hR, k1⟩
  dsimp only at hR
  replace gK := keep_br gK k1 hbr2
  have k2 := (Keep.refl NoB v1).alloc (.cells #[.int .i64 dop, .int .i64 da, .int .i64 db] 23)
  have bw := Blk.new v1 23 #[.int .i64 dop, .int .i64 da, .int .i64 db]
  replace gK := keepN gK k2
  replace hR := hR.keep k2 (fun _ _ => id)
  have rb := rd_n hr.out gK
  clear k1 k2
  obtain ⟨y0, y1, y2⟩ := blk_inst bw
  go_wp2_with fail
  refine (bytes_ok dop da db _ HOK2.out HI2.out.1 HI2.out.2).mono ?_
  rintro e v2 ⟨rfl, k1⟩
  replace gK := keepN gK k1
  replace hR := hR.keep k1 (fun _ _ => id)
  replace bw := bw.keep k1 id
  replace rb := rd_n rb k1
  clear k1 y0 y1 y2
  go_wp2_with fail
  refine (V.at_any _ br2 _ _ _ hR).mono ?_
  rintro e v3 ⟨rfl, rfl⟩
  have hcv : ∀ c, (convert 24 9 (.slice A dpl c)).run Tryz.prog v2 = .ok (.string (str (bytesI dop da db))) v2 := fun c => by
    have := V.conv_rd (c := c) (rd_take rb dpl)
    rw [HTL.out, HT.out] at this
    exact this
  obtain ⟨y0, y1, y2⟩ := blk_inst bw
  generalize bytesI dop da db = F at *
  have qF := qY (str F)
  clear rb qY hR
  go_wp2_with fail
  refine (check_ok dop da db _ HOK2.out).mono ?_
  rintro e v3 ⟨rfl, k1⟩
  replace gK := keepN gK k1
  clear k1 y0 y1 y2 hcv
  go_wp2_with fail
  refine (read_text S s _ hs.out HSZ.out (hL.out.keep gK) (hC.out.keep gK)).mono ?_
  rintro e v4 ⟨vr, rfl, hv, k1⟩
  replace gK := keepN gK k1
  clear k1
  rcases hv with ⟨op2, a2, b2, hok2, ht, rfl⟩ | ⟨_, rfl⟩
  · have HOKR : Hid (okI op2 a2 b2 = true) := hok2
    have HIR := Lib.hid (ok_i64 hok2)
    have HTX : Hid (textI op2 a2 b2 = s) := ht
    have k2 := (Keep.refl NoB v4).alloc (.cells #[.int .i64 op2, .int .i64 a2, .int .i64 b2] 23)
    have bq := Blk.new v4 23 #[.int .i64 op2, .int .i64 a2, .int .i64 b2]
    replace gK := keepN gK k2
    obtain ⟨u0, u1, u2⟩ := blk_inst bq
    clear hok2 ht k2
    go_wp2_with fail
    refine (show_ok op2 a2 b2 _ HOKR.out HIR.out.1 HIR.out.2 (hL.out.keep gK)).mono ?_
    rintro e v5 ⟨rfl, k1⟩
    have qS : ((str (textI op2 a2 b2)).toList == S.toList) = true := by rw [eq_text hs.out]; exact decide_eq_true HTX.out
    generalize str (textI op2 a2 b2) = tx at *
    go_wp2
    go_ret
    exact ⟨rfl, keepN gK k1⟩
  · go_wp2
    go_ret
    exact ⟨rfl, gK.alloc _⟩

set_option maxRecDepth 100000 in
set_option maxHeartbeats 4000000 in
theorem back_nn (op a b : Int) (A : Option Addr) (l : List UInt8) (c : Nat) (S : ByteArray) (s : List UInt8) (w : World) (hL : Hid (LaidO w)) (hC : Hid (CutAt w)) (hI : Hid (I64 a ∧ I64 b)) (hr : Hid (V.Rd w A l)) (_hc : l.length ≤ c) (hs : Hid (S.data.toList = s)) (h : l.length ≤ 100) (hS : S.size ≤ 100) (hok : Hid (okI op a b = false)) (d : Dec) (hd : decI l 0 = d) (her : d.er ≠ 0) :
    Calls Tryz.prog 6 #[instV op a b, .slice A l.length c, .string S] w fun e w' => e = .returned (.bool true) ∧ Keep NoB w w' := by
  have HL : Hid (l.length ≤ 140737488355328) := by show _ ≤ _; omega
  have HSZ : Hid (S.size ≤ 1000) := by show _ ≤ _; omega
  have HLE : Hid (l.length ≤ 100) := h
  have hq : decide ((100 : Int) < (l.length : Int)) = false := by rw [decide_eq_false_iff_not]; omega
  have hq2 : decide ((100 : Int) < (S.size : Int)) = false := by rw [decide_eq_false_iff_not]; omega
  clear h hS
  have HD1 := Lib.hid (fun w br O hO h => decode_any w br O l 0 hO h HL.out)
  rw [hd] at HD1
  obtain ⟨dop, da, db, der, dpl⟩ := d
  dsimp only at her HD1
  have qe : ((der : Int) != 0) = true := by rw [bne_iff_ne]; omega
  have qe2 : ((der : Int) == 0) = false := by rw [beq_eq_false_iff_ne]; omega
  clear hd her
  have bx := Blk.new w 23 #[.int .i64 op, .int .i64 a, .int .i64 b]
  have gK := (Keep.refl NoB w).alloc (.cells #[.int .i64 op, .int .i64 a, .int .i64 b] 23)
  go_enter Tryz.func6, Tryz.ntmps6
  go_wp2_with fail
  refine (alive_any _ (hL.out.keep gK)).mono ?_
  rintro e w1 ⟨rfl, k1⟩
  replace bx := bx.keep k1 id
  replace gK := keepN gK k1
  clear k1
  obtain ⟨x0, x1, x2⟩ := blk_inst bx
  go_wp2_with fail
  refine (encode_no op a b _ hok.out hI.out.1 hI.out.2).mono ?_
  rintro e w2 ⟨vu, rfl, hu, k1⟩
  replace bx := bx.keep k1 id
  replace gK := keepN gK k1
  clear k1 x0 x1 x2
  have rb := rd_n hr.out gK
  clear hu bx
  go_wp2_with fail
  refine (V.on_any _ A l c rb HL.out).mono ?_
  rintro e v0 ⟨br2, rfl, hR, k1⟩
  have hbr2 : w.heap.size ≤ br2 := Nat.le_trans gK.size hR.1
  replace gK := keepN gK k1
  replace rb := rd_n rb k1
  clear k1
  have hR := reel_new hR
  go_wp2_with fail
  refine (HD1.out _ br2 _ (fun k hk => hk.2) hR).mono ?_
  rintro e v1 ⟨rfl, hR, k1⟩
  dsimp only at hR
  replace gK := keep_br gK k1 hbr2
  have k2 := (Keep.refl NoB v1).alloc (.cells #[.int .i64 dop, .int .i64 da, .int .i64 db] 23)
  have bw := Blk.new v1 23 #[.int .i64 dop, .int .i64 da, .int .i64 db]
  replace gK := keepN gK k2
  replace hR := hR.keep k2 (fun _ _ => id)
  have rb := rd_n hr.out gK
  clear k1 k2
  clear hR bw rb
  go_wp2_with fail
  refine (read_text S s _ hs.out HSZ.out (hL.out.keep gK) (hC.out.keep gK)).mono ?_
  rintro e v4 ⟨vr, rfl, hv, k1⟩
  replace gK := keepN gK k1
  clear k1
  rcases hv with ⟨op2, a2, b2, hok2, ht, rfl⟩ | ⟨_, rfl⟩
  · have HOKR : Hid (okI op2 a2 b2 = true) := hok2
    have HIR := Lib.hid (ok_i64 hok2)
    have HTX : Hid (textI op2 a2 b2 = s) := ht
    have k2 := (Keep.refl NoB v4).alloc (.cells #[.int .i64 op2, .int .i64 a2, .int .i64 b2] 23)
    have bq := Blk.new v4 23 #[.int .i64 op2, .int .i64 a2, .int .i64 b2]
    replace gK := keepN gK k2
    obtain ⟨u0, u1, u2⟩ := blk_inst bq
    clear hok2 ht k2
    go_wp2_with fail
    refine (show_ok op2 a2 b2 _ HOKR.out HIR.out.1 HIR.out.2 (hL.out.keep gK)).mono ?_
    rintro e v5 ⟨rfl, k1⟩
    have qS : ((str (textI op2 a2 b2)).toList == S.toList) = true := by rw [eq_text hs.out]; exact decide_eq_true HTX.out
    generalize str (textI op2 a2 b2) = tx at *
    go_wp2
    go_ret
    exact ⟨rfl, keepN gK k1⟩
  · go_wp2
    go_ret
    exact ⟨rfl, gK.alloc _⟩

theorem back_walk (op a b : Int) (A : Option Addr) (l : List UInt8) (c : Nat) (S : ByteArray) (w : World) (hL : LaidO w) (hC : CutAt w) (ha : I64 a) (hb : I64 b) (hr : V.Rd w A l) (hc : l.length ≤ c) :
    Calls Tryz.prog 6 #[instV op a b, .slice A l.length c, .string S] w fun e w' => e = .returned (.bool true) ∧ Keep NoB w w' := by
  by_cases h : l.length ≤ 100
  · by_cases hS : S.size ≤ 100
    · cases hok : okI op a b
      · by_cases he : (decI l 0).er = 0
        · exact back_ny op a b A l c S _ w hL hC ⟨ha, hb⟩ hr hc rfl h hS hok _ rfl he
        · exact back_nn op a b A l c S _ w hL hC ⟨ha, hb⟩ hr hc rfl h hS hok _ rfl he
      · by_cases he : (decI l 0).er = 0
        · exact back_yy op a b A l c S _ w hL hC ⟨ha, hb⟩ hr hc rfl h hS hok _ rfl he
        · exact back_yn op a b A l c S _ w hL hC ⟨ha, hb⟩ hr hc rfl h hS hok _ rfl he
    · exact back_big op a b A l.length c S w hL (.inr (by omega))
  · exact back_big op a b A l.length c S w hL (.inl (by omega))

end Go.Proofs.YtpkcjokkadfhcaaGreatDoor.O
