/-
  ShapeBoth's walk: a signature is read from its bytes, whatever stands behind them, and from its text, as it was; what is read of any bytes, and text, has just these. Conditions: the letters stand; lists and bytes lie in memory.
-/
import Derived.Test.YtieejecodfeodaaDoorQ9
namespace Go.Proofs.YtieejecodfeodaaDoor.S
open Go.RowKit W

theorem decG_front {a r : List Int} (h : okG a r = true) (b : List UInt8) : decG (bytesG a r ++ b) 0 = some ((a, r), (bytesG a r).length) := by
  have := decG_enc (l := bytesG a r ++ b) (s := b) (p := 0) h rfl
  rw [Nat.zero_add] at this; exact this
theorem shG_len (a r : List Int) : (shG a r).length ≤ 3000 := by
  unfold shG
  split
  · have h1 := txt_le a
    have h2 := txt_le r
    rw [List.length_append, List.length_cons]; omega
  · simp
theorem bytesG_len {a r : List Int} (h : okG a r = true) : (bytesG a r).length ≤ 60 := by
  obtain ⟨h1, _⟩ := (okG_iff a r).1 h
  have := bytesT_len a (by omega)
  have := bytesT_len r (by omega)
  unfold bytesG
  rw [List.length_append]; omega

set_option maxRecDepth 100000 in
set_option maxHeartbeats 1000000 in
theorem both_big (A : Option Addr) (na ca : Nat) (A0 : Option Addr) (nb cb : Nat) (B : Option Addr) (m d : Nat) (S : ByteArray) (w : World) (hL : Hid (LetAt w)) (h : ¬ (na ≤ 100 ∧ nb ≤ 100 ∧ m ≤ 100 ∧ S.size ≤ 200)) :
    Calls Tryd.prog 7 #[.agg #[.slice A na ca, .slice A0 nb cb], .slice B m d, .string S] w fun e w' => e = .returned (.bool true) ∧ Keep NoB w w' := by
  have bx := Blk.new w 26 #[.slice A na ca, .slice A0 nb cb]
  have gK := (Keep.refl NoB w).alloc (.cells #[.slice A na ca, .slice A0 nb cb] 26)
  by_cases hg : na ≤ 100 ∧ nb ≤ 100
  · have HG := Lib.hid (fun w => great_no none A A0 0 0 na ca nb cb w (by decide) hg.1 hg.2)
    by_cases h2 : m ≤ 100
    · have hq2 : decide ((100 : Int) < (m : Int)) = false := by rw [decide_eq_false_iff_not]; omega
      have hq3 : decide ((200 : Int) < (S.size : Int)) = true := by rw [decide_eq_true_iff]; omega
      clear h hg h2
      go_enter Tryd.func7, Tryd.ntmps7
      go_wp2_with fail
      refine (alive_any _ (hL.out.keep gK)).mono ?_
      rintro e w1 ⟨rfl, k1⟩
      replace bx := bx.keep k1 id
      replace gK := keepN gK k1
      obtain ⟨x0, x1⟩ := blk2 bx
      clear k1
      go_wp2_with fail
      refine (HG.out _).mono ?_
      rintro e w1b ⟨rfl, k1⟩
      replace bx := bx.keep k1 id
      replace gK := keepN gK k1
      clear x0 x1 k1
      go_wp2
      go_ret
      exact ⟨rfl, gK⟩
    · have hq2 : decide ((100 : Int) < (m : Int)) = true := by rw [decide_eq_true_iff]; omega
      clear h hg h2
      go_enter Tryd.func7, Tryd.ntmps7
      go_wp2_with fail
      refine (alive_any _ (hL.out.keep gK)).mono ?_
      rintro e w1 ⟨rfl, k1⟩
      replace bx := bx.keep k1 id
      replace gK := keepN gK k1
      obtain ⟨x0, x1⟩ := blk2 bx
      clear k1
      go_wp2_with fail
      refine (HG.out _).mono ?_
      rintro e w1b ⟨rfl, k1⟩
      replace bx := bx.keep k1 id
      replace gK := keepN gK k1
      clear x0 x1 k1
      go_wp2
      go_ret
      exact ⟨rfl, gK⟩
  · have HG := Lib.hid (fun w => great_yes none A A0 0 0 na ca nb cb w (by omega))
    clear h hg
    go_enter Tryd.func7, Tryd.ntmps7
    go_wp2_with fail
    refine (alive_any _ (hL.out.keep gK)).mono ?_
    rintro e w1 ⟨rfl, k1⟩
    replace bx := bx.keep k1 id
    replace gK := keepN gK k1
    obtain ⟨x0, x1⟩ := blk2 bx
    clear k1
    go_wp2_with fail
    refine (HG.out _).mono ?_
    rintro e w1b ⟨rfl, k1⟩
    replace bx := bx.keep k1 id
    replace gK := keepN gK k1
    clear x0 x1 k1
    go_wp2
    go_ret
    exact ⟨rfl, gK⟩

set_option maxRecDepth 100000 in
set_option maxHeartbeats 8000000 in
theorem both_yyy (A : Option Addr) (a : List Int) (na ca : Nat) (A0 : Option Addr) (r : List Int) (nb cb : Nat) (B : Option Addr) (b : List UInt8) (d : Nat) (S : ByteArray) (s : List UInt8) (w : World) (hL : Hid (LetAt w)) (ha : Hid (Rd w A (ivs a))) (hr : Hid (Rd w A0 (ivs r))) (hna : Hid (a.length = na)) (hnb : Hid (r.length = nb)) (hb : Hid (V.Rd w B b)) (hc : b.length ≤ d) (hs : Hid (S.data.toList = s)) (h1 : na ≤ 100) (h1b : nb ≤ 100) (h2 : b.length ≤ 100) (h3 : S.size ≤ 200) (hok : Hid (okG a r = true)) (xa xr : List Int) (Q : Nat) (hd : decG b 0 = some ((xa, xr), Q)) (ya yr : List Int) (ht : rdG s = some (ya, yr)) :
    Calls Tryd.prog 7 #[.agg #[.slice A na ca, .slice A0 nb cb], .slice B b.length d, .string S] w fun e w' => e = .returned (.bool true) ∧ Keep NoB w w' := by
  have bx := Blk.new w 26 #[.slice A na ca, .slice A0 nb cb]
  have gK := (Keep.refl NoB w).alloc (.cells #[.slice A na ca, .slice A0 nb cb] 26)
  have HL : Hid (b.length ≤ 140737488355328) := by show _ ≤ _; omega
  have HLE : Hid (b.length ≤ 100) := h2
  have HG := Lib.hid (fun w => great_no none A A0 0 0 na ca nb cb w (by decide) h1 h1b)
  have hq2 : decide ((100 : Int) < (b.length : Int)) = false := by rw [decide_eq_false_iff_not]; omega
  have hq3 : decide ((200 : Int) < (S.size : Int)) = false := by rw [decide_eq_false_iff_not]; omega
  clear h2
  have HX := Lib.hid (fun w ha hr => encodeG_any A a na ca A0 r nb cb w ha hr hna hnb (by omega) (by omega))
  have HD1 := Lib.hid (fun w br O hO h => decodeG_any w br O b 0 hO h HL.out)
  have HRT := Lib.hid (fun w hL => readG_any S s w hL hs (by omega))
  rw [ht] at HRT
  rw [hd] at HD1
  rw [encG_ok hok.out, chkG_ok hok.out] at HX
  obtain ⟨t1, t2⟩ := sh_rdG ht
  have hyl := ((okG_iff ya yr).1 t1).1
  have HSH := Lib.hid (fun A c B d w hL ha hr => showG_any A ya ya.length c B yr yr.length d w hL ha hr rfl rfl (by omega) (by omega))
  rw [t2, str_of hs.out] at HSH
  have qT := list_self S
  clear t1 t2 hyl
  clear ht
  have hok2 := hok.out
  have HF := Lib.hid (fun w br O hO h hlen => decodeG_any w br O (bytesG a r ++ b) 0 hO h hlen)
  rw [decG_front hok2 b] at HF
  have HI := Lib.hid (fun A1 c1 B1 d1 w ha1 hr1 ha2 hr2 => same_any A1 a na c1 B1 r nb d1 A a na ca A0 r nb cb w ha1 hr1 ha2 hr2 hna hnb hna hnb (by omega) (by omega) (by omega) (by omega) true (by show true = _; simp))
  have HSW := Lib.hid (fun w hL ha hr => showG_any A a na ca A0 r nb cb w hL ha hr hna hnb (by omega) (by omega))
  have HRR := Lib.hid (fun w hL => readG_any (W.str (shG a r)) (shG a r) w hL rfl (by rw [size_of (s := shG a r) (by simp)]; have := shG_len a r; omega))
  rw [rdG_sh hok2] at HRR
  have hul := bytesG_len hok2
  obtain ⟨U, hU⟩ : ∃ U, bytesG a r = U := ⟨_, rfl⟩
  rw [hU] at HX HF hul
  obtain ⟨TS, hTS⟩ : ∃ TS, W.str (shG a r) = TS := ⟨_, rfl⟩
  rw [hTS] at HSW HRR
  have qU2 : ((U.length : Int) != (U.length : Int)) = false := by simp
  clear hok2 hU hTS
  obtain ⟨o1, o2, o3⟩ := decG_ok hd
  obtain ⟨mx, hmx⟩ : ∃ mx, xa.length = mx := ⟨_, rfl⟩
  obtain ⟨my, hmy⟩ : ∃ my, xr.length = my := ⟨_, rfl⟩
  have HM := Lib.hid hmx
  have HN := Lib.hid hmy
  have hxl := ((okG_iff xa xr).1 o1).1
  rw [hmx, hmy] at hxl
  have HX2 := Lib.hid (fun A c B d w ha hr => encodeG_any A xa mx c B xr my d w ha hr hmx hmy (by omega) (by omega))
  rw [encG_ok o1, chkG_ok o1] at HX2
  have HT : Hid (b.take Q = bytesG xa xr) := by
    show _ = _
    rw [List.drop_zero] at o2
    rw [Nat.zero_add] at o3
    rw [o3]
    conv => lhs; rw [o2]
    rw [List.take_left]
  have hpl : Q ≤ b.length := by
    have h1 := congrArg List.length o2
    simp at h1
    omega
  have HTL := Lib.hid (show (b.take Q).length = Q by simp; omega)
  have hpd : Q ≤ d := by omega
  obtain ⟨V2, hV2⟩ : ∃ V2, bytesG xa xr = V2 := ⟨_, rfl⟩
  rw [hV2] at HX2 HT
  obtain ⟨S2, hS2⟩ : ∃ S2, V.str V2 = S2 := ⟨_, rfl⟩
  have HS := Lib.hid hS2
  have qS := list_self S2
  clear hd o1 o2 o3 hmx hmy hxl hV2 hS2
  go_enter Tryd.func7, Tryd.ntmps7
  go_wp2_with fail
  refine (alive_any _ (hL.out.keep gK)).mono ?_
  rintro e w1 ⟨rfl, k1⟩
  replace bx := bx.keep k1 id
  replace gK := keepN gK k1
  obtain ⟨x0, x1⟩ := blk2 bx
  clear k1
  go_wp2_with fail
  refine (HG.out _).mono ?_
  rintro e w1b ⟨rfl, k1⟩
  replace bx := bx.keep k1 id
  replace gK := keepN gK k1
  clear x0 x1 k1
  obtain ⟨x0, x1⟩ := blk2 bx
  go_wp2_with fail
  refine (HX.out _ (ha.out.keepN gK) (hr.out.keepN gK)).mono ?_
  rintro e w2 ⟨vu, rfl, hu, k1⟩
  replace gK := keepN gK k1
  replace bx := bx.keep k1 id
  clear x0 x1 k1
  obtain ⟨Au, cu, rfl, ru, _⟩ := own_rd hu
  have hm2 := made_own w2
  have ru2 := rd_n ru ((Keep.refl NoB w2).alloc (.cells #[] 5))
  go_wp2_with (first | (at_builtin; refine V.wpList_append_rd _ rfl (.tmp 48) (.tmp 49) rfl (.slice (some ⟨w2.heap.size, 0, none⟩) 0 0) [] U Au cu rfl hm2.1 rfl ru2 (by simp; omega) ?_; intro v1 w3 hown hg hat; have hap := own_app hm2 ((Keep.refl NoB w2).alloc _) hown hg hat; rw [List.nil_append] at hap; have rb3 := rd_n hb.out (keepN gK hap.2); clear hown hg hat) | (at_builtin; refine V.wpList_append_rd _ rfl (.tmp 50) (.tmp 51) rfl v1 U b B d rfl hap.1.1 rfl rb3 (by have := HLE.out; omega) ?_; intro v2 w4 hown hg hat; have hap2 := own_app hap.1 hap.2 hown hg hat; clear hown hg hat))
  obtain ⟨A2, c2, rfl, r2, _⟩ := own_rd hap2.1
  replace bx := bx.keep hap2.2 id
  replace gK := keepN gK hap2.2
  clear hap hap2 hm2 ru2 rb3 hu ru
  have HUL : Hid ((U ++ b).length ≤ 140737488355328) := by show _ ≤ _; have := HLE.out; rw [List.length_append]; omega
  go_wp2_with fail
  refine (V.on_any _ A2 (U ++ b) c2 r2 HUL.out).mono ?_
  rintro e w5 ⟨br, rfl, hR, k1⟩
  have hs4 := gK.size
  have hbr : w4.heap.size ≤ br := hR.1
  have hbl4 := bx.lt
  replace gK := keepN gK k1
  replace bx := bx.keep k1 id
  clear k1 r2
  have hR := reel_new hR
  go_wp2_with fail
  refine (HF.out _ br _ (fun k hk => hk.2) hR HUL.out).mono ?_
  rintro e w6 ⟨vm, vm2, q, rfl, hOm, hOn, hR, hq, k1⟩
  obtain rfl : q = U.length := hq _ rfl
  dsimp only [optA, optB, optF] at hOm hOn ⊢
  rw [hna.out] at hOm
  rw [hnb.out] at hOn
  obtain ⟨Am, cm, rfl, rm⟩ := own_rdI hOm
  obtain ⟨An, cn, rfl, rn⟩ := own_rdI hOn
  replace bx := bx.keep k1 (fun e => by omega)
  replace gK := keep_br gK k1 (by omega)
  clear k1 hOm hOn hq
  have blm := Blk.new w6 26 #[.slice Am na cm, .slice An nb cn]
  have kA := (Keep.refl NoB w6).alloc (.cells #[.slice Am na cm, .slice An nb cn] 26)
  replace gK := keepN gK kA
  replace bx := bx.keep kA id
  replace hR := hR.keep kA (fun _ _ => id)
  replace rm := rm.keepN kA
  replace rn := rn.keepN kA
  clear kA
  obtain ⟨x0, x1⟩ := blk2 bx
  go_wp2_with fail
  refine (HSW.out _ (hL.out.keep gK) (ha.out.keepN gK) (hr.out.keepN gK)).mono ?_
  rintro e w7 ⟨rfl, k1⟩
  replace gK := keepN gK k1
  replace bx := bx.keep k1 id
  replace hR := hR.keep k1 (fun _ _ => id)
  replace rm := rm.keepN k1
  replace rn := rn.keepN k1
  replace blm := blm.keep k1 id
  clear k1 x0 x1
  go_wp2_with fail
  refine (HRR.out _ (hL.out.keep gK)).mono ?_
  rintro e w8 ⟨vy, vy2, rfl, hOy, hOz, k1⟩
  dsimp only [spA, spB, spE] at hOy hOz ⊢
  rw [hna.out] at hOy
  rw [hnb.out] at hOz
  obtain ⟨Ay, cy, rfl, ry⟩ := own_rdI hOy
  obtain ⟨Az, cz, rfl, rz⟩ := own_rdI hOz
  replace gK := keepN gK k1
  replace bx := bx.keep k1 id
  replace hR := hR.keep k1 (fun _ _ => id)
  replace rm := rm.keepN k1
  replace rn := rn.keepN k1
  replace blm := blm.keep k1 id
  clear k1 hOy hOz
  have bly := Blk.new w8 26 #[.slice Ay na cy, .slice Az nb cz]
  have kA := (Keep.refl NoB w8).alloc (.cells #[.slice Ay na cy, .slice Az nb cz] 26)
  replace gK := keepN gK kA
  replace bx := bx.keep kA id
  replace hR := hR.keep kA (fun _ _ => id)
  replace rm := rm.keepN kA
  replace rn := rn.keepN kA
  replace blm := blm.keep kA id
  replace ry := ry.keepN kA
  replace rz := rz.keepN kA
  clear kA
  obtain ⟨x0, x1⟩ := blk2 bx
  obtain ⟨m0, m1⟩ := blk2 blm
  go_wp2_with fail
  refine (HI.out _ _ _ _ _ rm rn (ha.out.keepN gK) (hr.out.keepN gK)).mono ?_
  rintro e w9 ⟨rfl, k1⟩
  replace gK := keepN gK k1
  replace bx := bx.keep k1 id
  replace hR := hR.keep k1 (fun _ _ => id)
  replace bly := bly.keep k1 id
  replace ry := ry.keepN k1
  replace rz := rz.keepN k1
  clear k1 rm rn x0 x1 m0 m1 blm
  obtain ⟨x0, x1⟩ := blk2 bx
  obtain ⟨y0, y1⟩ := blk2 bly
  go_wp2_with fail
  refine (V.at_any _ br _ _ _ hR).mono ?_
  rintro e w10 ⟨rfl, rfl⟩
  clear hR
  go_wp2_with fail
  refine (HI.out _ _ _ _ _ ry rz (ha.out.keepN gK) (hr.out.keepN gK)).mono ?_
  rintro e w11 ⟨rfl, k1⟩
  replace gK := keepN gK k1
  have rb := rd_n hb.out gK
  clear k1 ry rz x0 x1 y0 y1 bx bly
  go_wp2_with fail
  refine (V.on_any _ B b d rb HL.out).mono ?_
  rintro e v0 ⟨br2, rfl, hR, k1⟩
  have hbr2 : w.heap.size ≤ br2 := Nat.le_trans gK.size hR.1
  replace gK := keepN gK k1
  clear k1 rb
  have hR := reel_new hR
  go_wp2_with fail
  refine (HD1.out _ br2 _ (fun k hk => hk.2) hR).mono ?_
  rintro e v1 ⟨vx, vx2, qx, rfl, hOx, hOw, hR, hqx, k1⟩
  replace gK := keep_br gK k1 hbr2
  clear k1
  dsimp only [optA, optB, optF] at hOx hOw ⊢
  obtain rfl : qx = Q := hqx _ rfl
  rw [HM.out] at hOx
  rw [HN.out] at hOw
  obtain ⟨Ax, cx, rfl, rx⟩ := own_rdI hOx
  obtain ⟨Aw, cw, rfl, rq⟩ := own_rdI hOw
  clear hOx hOw hqx
  have blx := Blk.new v1 26 #[.slice Ax mx cx, .slice Aw my cw]
  have kA := (Keep.refl NoB v1).alloc (.cells #[.slice Ax mx cx, .slice Aw my cw] 26)
  replace gK := keepN gK kA
  replace hR := hR.keep kA (fun _ _ => id)
  replace rx := rx.keepN kA
  replace rq := rq.keepN kA
  clear kA
  obtain ⟨x0, x1⟩ := blk2 blx
  go_wp2_with fail
  refine (HX2.out _ _ _ _ _ rx rq).mono ?_
  rintro e v2 ⟨vv, rfl, hv, k1⟩
  obtain ⟨Av, cv, rfl, rv, _⟩ := own_rd hv
  replace gK := keepN gK k1
  replace hR := hR.keep k1 (fun _ _ => id)
  have rb := rd_n hb.out gK
  clear k1 rx rq hv x0 x1 blx
  go_wp2
  refine wp_region_sh ((0, false) :: (1, false) :: (2, false) :: (3, false) :: (4, false) :: (5, false) :: (6, false) :: (7, false) :: (8, false) :: (9, false) :: (10, false) :: (11, false) :: []) (fun w' => Keep NoB v2 w') (by kernel_rfl) (by kernel_rfl) (by rfl) (by kernel_rfl) (stable_keep v2) (Keep.refl NoB v2).drew ?_
  refine shM_step rfl rfl rfl (by rfl) (by rfl) ?_
  apply Exists.intro
  refine ⟨fun z K hK => ?_, ?_, ?_⟩
  · go_big_quiet_op
    exact hK _ rfl
  · kernel_rfl
  refine shM_step rfl rfl rfl (by rfl) (by rfl) ?_
  apply Exists.intro
  refine ⟨fun z K hK => ?_, ?_, ?_⟩
  · go_big_quiet_op
    exact hK _ rfl
  · kernel_rfl
  refine shM_step rfl rfl rfl (by rfl) (by rfl) ?_
  apply Exists.intro
  refine ⟨fun z K hK => ?_, ?_, ?_⟩
  · go_big_quiet_op
    exact hK _ rfl
  · kernel_rfl
  refine shM_step rfl rfl rfl (by rfl) (by rfl) ?_
  apply Exists.intro
  refine ⟨fun z K hK => ?_, ?_, ?_⟩
  · go_big_quiet_op
    exact hK _ rfl
  · kernel_rfl
  refine shM_step rfl rfl rfl (by rfl) (by rfl) ?_
  apply Exists.intro
  refine ⟨fun z K hK => ?_, ?_, ?_⟩
  · have cu_ : ∀ y : KW z.w, (convert 23 9 (.slice Av V2.length cv)).run Tryd.prog y.w = .ok (.string S2) y.w := fun y => by have := V.conv_rd (c := cv) (rd_n rv (keepN z.has y.keep)); rw [HS.out] at this; exact this
    go_big_quiet_op
    exact hK _ rfl
  · kernel_rfl
  refine shM_step rfl rfl rfl (by rfl) (by rfl) ?_
  apply Exists.intro
  refine ⟨fun z K hK => ?_, ?_, ?_⟩
  · go_big_quiet_op
    exact hK _ rfl
  · kernel_rfl
  refine shM_step rfl rfl rfl (by rfl) (by rfl) ?_
  apply Exists.intro
  refine ⟨fun z K hK => ?_, ?_, ?_⟩
  · go_big_quiet_op
    exact hK _ rfl
  · kernel_rfl
  refine shM_step rfl rfl rfl (by rfl) (by rfl) ?_
  apply Exists.intro
  refine ⟨fun z K hK => ?_, ?_, ?_⟩
  · go_big_quiet_op
    apply Exists.intro
    refine ⟨fun y => ?_, ?_⟩
    · go_at_call 21
      exact kept_of (at_gen hR (keepN z.has y.keep))
    · exact hK _ rfl
  · kernel_rfl
  refine shM_step rfl rfl rfl (by rfl) (by rfl) ?_
  apply Exists.intro
  refine ⟨fun z K hK => ?_, ?_, ?_⟩
  · go_big_quiet_op
    exact hK _ rfl
  · kernel_rfl
  refine shM_step rfl rfl rfl (by rfl) (by rfl) ?_
  apply Exists.intro
  refine ⟨fun z K hK => ?_, ?_, ?_⟩
  · have cb_ : ∀ (c : Nat) (y : KW z.w), (convert 23 9 (.slice B qx c)).run Tryd.prog y.w = .ok (.string S2) y.w := fun c y => by have := V.conv_rd (c := c) (rd_take (rd_n rb (keepN z.has y.keep)) qx); rw [HTL.out, HT.out, HS.out] at this; exact this
    go_big_quiet_op
    exact hK _ rfl
  · kernel_rfl
  refine shM_step rfl rfl rfl (by rfl) (by rfl) ?_
  apply Exists.intro
  refine ⟨fun z K hK => ?_, ?_, ?_⟩
  · go_big_quiet_op
    exact hK _ rfl
  · kernel_rfl
  refine shM_step rfl rfl rfl (by rfl) (by rfl) ?_
  apply Exists.intro
  refine ⟨fun z K hK => ?_, ?_, ?_⟩
  · go_big_quiet_op
    exact hK _ rfl
  · kernel_rfl
  refine shM_nil (fun z => ?_)
  have k5 := z.has
  replace gK := keepN gK k5
  generalize z.w = w12 at k5 gK ⊢
  clear k5 rv hR rb
  go_wp2_with fail
  refine (HRT.out _ (hL.out.keep gK)).mono ?_
  rintro e w13 ⟨vt, vt2, rfl, hOt, hOs, k1⟩
  replace gK := keepN gK k1
  clear k1
  dsimp only [spA, spB, spE] at hOt hOs ⊢
  obtain ⟨At, ct, rfl, rt⟩ := own_rdI hOt
  obtain ⟨As, cs, rfl, rs⟩ := own_rdI hOs
  clear hOt hOs
  have blt := Blk.new w13 26 #[.slice At ya.length ct, .slice As yr.length cs]
  have kA := (Keep.refl NoB w13).alloc (.cells #[.slice At ya.length ct, .slice As yr.length cs] 26)
  replace gK := keepN gK kA
  replace rt := rt.keepN kA
  replace rs := rs.keepN kA
  clear kA
  obtain ⟨t0, t1⟩ := blk2 blt
  go_wp2_with fail
  refine (HSH.out _ _ _ _ _ (hL.out.keep gK) rt rs).mono ?_
  rintro e w14 ⟨rfl, k1⟩
  replace gK := keepN gK k1
  clear k1
  go_wp2
  go_ret
  exact ⟨rfl, gK⟩

set_option maxRecDepth 100000 in
set_option maxHeartbeats 8000000 in
theorem both_yyn (A : Option Addr) (a : List Int) (na ca : Nat) (A0 : Option Addr) (r : List Int) (nb cb : Nat) (B : Option Addr) (b : List UInt8) (d : Nat) (S : ByteArray) (s : List UInt8) (w : World) (hL : Hid (LetAt w)) (ha : Hid (Rd w A (ivs a))) (hr : Hid (Rd w A0 (ivs r))) (hna : Hid (a.length = na)) (hnb : Hid (r.length = nb)) (hb : Hid (V.Rd w B b)) (hc : b.length ≤ d) (hs : Hid (S.data.toList = s)) (h1 : na ≤ 100) (h1b : nb ≤ 100) (h2 : b.length ≤ 100) (h3 : S.size ≤ 200) (hok : Hid (okG a r = true)) (xa xr : List Int) (Q : Nat) (hd : decG b 0 = some ((xa, xr), Q)) (ht : rdG s = none) :
    Calls Tryd.prog 7 #[.agg #[.slice A na ca, .slice A0 nb cb], .slice B b.length d, .string S] w fun e w' => e = .returned (.bool true) ∧ Keep NoB w w' := by
  have bx := Blk.new w 26 #[.slice A na ca, .slice A0 nb cb]
  have gK := (Keep.refl NoB w).alloc (.cells #[.slice A na ca, .slice A0 nb cb] 26)
  have HL : Hid (b.length ≤ 140737488355328) := by show _ ≤ _; omega
  have HLE : Hid (b.length ≤ 100) := h2
  have HG := Lib.hid (fun w => great_no none A A0 0 0 na ca nb cb w (by decide) h1 h1b)
  have hq2 : decide ((100 : Int) < (b.length : Int)) = false := by rw [decide_eq_false_iff_not]; omega
  have hq3 : decide ((200 : Int) < (S.size : Int)) = false := by rw [decide_eq_false_iff_not]; omega
  clear h2
  have HX := Lib.hid (fun w ha hr => encodeG_any A a na ca A0 r nb cb w ha hr hna hnb (by omega) (by omega))
  have HD1 := Lib.hid (fun w br O hO h => decodeG_any w br O b 0 hO h HL.out)
  have HRT := Lib.hid (fun w hL => readG_any S s w hL hs (by omega))
  rw [ht] at HRT
  rw [hd] at HD1
  rw [encG_ok hok.out, chkG_ok hok.out] at HX
  clear ht
  have hok2 := hok.out
  have HF := Lib.hid (fun w br O hO h hlen => decodeG_any w br O (bytesG a r ++ b) 0 hO h hlen)
  rw [decG_front hok2 b] at HF
  have HI := Lib.hid (fun A1 c1 B1 d1 w ha1 hr1 ha2 hr2 => same_any A1 a na c1 B1 r nb d1 A a na ca A0 r nb cb w ha1 hr1 ha2 hr2 hna hnb hna hnb (by omega) (by omega) (by omega) (by omega) true (by show true = _; simp))
  have HSW := Lib.hid (fun w hL ha hr => showG_any A a na ca A0 r nb cb w hL ha hr hna hnb (by omega) (by omega))
  have HRR := Lib.hid (fun w hL => readG_any (W.str (shG a r)) (shG a r) w hL rfl (by rw [size_of (s := shG a r) (by simp)]; have := shG_len a r; omega))
  rw [rdG_sh hok2] at HRR
  have hul := bytesG_len hok2
  obtain ⟨U, hU⟩ : ∃ U, bytesG a r = U := ⟨_, rfl⟩
  rw [hU] at HX HF hul
  obtain ⟨TS, hTS⟩ : ∃ TS, W.str (shG a r) = TS := ⟨_, rfl⟩
  rw [hTS] at HSW HRR
  have qU2 : ((U.length : Int) != (U.length : Int)) = false := by simp
  clear hok2 hU hTS
  obtain ⟨o1, o2, o3⟩ := decG_ok hd
  obtain ⟨mx, hmx⟩ : ∃ mx, xa.length = mx := ⟨_, rfl⟩
  obtain ⟨my, hmy⟩ : ∃ my, xr.length = my := ⟨_, rfl⟩
  have HM := Lib.hid hmx
  have HN := Lib.hid hmy
  have hxl := ((okG_iff xa xr).1 o1).1
  rw [hmx, hmy] at hxl
  have HX2 := Lib.hid (fun A c B d w ha hr => encodeG_any A xa mx c B xr my d w ha hr hmx hmy (by omega) (by omega))
  rw [encG_ok o1, chkG_ok o1] at HX2
  have HT : Hid (b.take Q = bytesG xa xr) := by
    show _ = _
    rw [List.drop_zero] at o2
    rw [Nat.zero_add] at o3
    rw [o3]
    conv => lhs; rw [o2]
    rw [List.take_left]
  have hpl : Q ≤ b.length := by
    have h1 := congrArg List.length o2
    simp at h1
    omega
  have HTL := Lib.hid (show (b.take Q).length = Q by simp; omega)
  have hpd : Q ≤ d := by omega
  obtain ⟨V2, hV2⟩ : ∃ V2, bytesG xa xr = V2 := ⟨_, rfl⟩
  rw [hV2] at HX2 HT
  obtain ⟨S2, hS2⟩ : ∃ S2, V.str V2 = S2 := ⟨_, rfl⟩
  have HS := Lib.hid hS2
  have qS := list_self S2
  clear hd o1 o2 o3 hmx hmy hxl hV2 hS2
  go_enter Tryd.func7, Tryd.ntmps7
  go_wp2_with fail
  refine (alive_any _ (hL.out.keep gK)).mono ?_
  rintro e w1 ⟨rfl, k1⟩
  replace bx := bx.keep k1 id
  replace gK := keepN gK k1
  obtain ⟨x0, x1⟩ := blk2 bx
  clear k1
  go_wp2_with fail
  refine (HG.out _).mono ?_
  rintro e w1b ⟨rfl, k1⟩
  replace bx := bx.keep k1 id
  replace gK := keepN gK k1
  clear x0 x1 k1
  obtain ⟨x0, x1⟩ := blk2 bx
  go_wp2_with fail
  refine (HX.out _ (ha.out.keepN gK) (hr.out.keepN gK)).mono ?_
  rintro e w2 ⟨vu, rfl, hu, k1⟩
  replace gK := keepN gK k1
  replace bx := bx.keep k1 id
  clear x0 x1 k1
  obtain ⟨Au, cu, rfl, ru, _⟩ := own_rd hu
  have hm2 := made_own w2
  have ru2 := rd_n ru ((Keep.refl NoB w2).alloc (.cells #[] 5))
  go_wp2_with (first | (at_builtin; refine V.wpList_append_rd _ rfl (.tmp 48) (.tmp 49) rfl (.slice (some ⟨w2.heap.size, 0, none⟩) 0 0) [] U Au cu rfl hm2.1 rfl ru2 (by simp; omega) ?_; intro v1 w3 hown hg hat; have hap := own_app hm2 ((Keep.refl NoB w2).alloc _) hown hg hat; rw [List.nil_append] at hap; have rb3 := rd_n hb.out (keepN gK hap.2); clear hown hg hat) | (at_builtin; refine V.wpList_append_rd _ rfl (.tmp 50) (.tmp 51) rfl v1 U b B d rfl hap.1.1 rfl rb3 (by have := HLE.out; omega) ?_; intro v2 w4 hown hg hat; have hap2 := own_app hap.1 hap.2 hown hg hat; clear hown hg hat))
  obtain ⟨A2, c2, rfl, r2, _⟩ := own_rd hap2.1
  replace bx := bx.keep hap2.2 id
  replace gK := keepN gK hap2.2
  clear hap hap2 hm2 ru2 rb3 hu ru
  have HUL : Hid ((U ++ b).length ≤ 140737488355328) := by show _ ≤ _; have := HLE.out; rw [List.length_append]; omega
  go_wp2_with fail
  refine (V.on_any _ A2 (U ++ b) c2 r2 HUL.out).mono ?_
  rintro e w5 ⟨br, rfl, hR, k1⟩
  have hs4 := gK.size
  have hbr : w4.heap.size ≤ br := hR.1
  have hbl4 := bx.lt
  replace gK := keepN gK k1
  replace bx := bx.keep k1 id
  clear k1 r2
  have hR := reel_new hR
  go_wp2_with fail
  refine (HF.out _ br _ (fun k hk => hk.2) hR HUL.out).mono ?_
  rintro e w6 ⟨vm, vm2, q, rfl, hOm, hOn, hR, hq, k1⟩
  obtain rfl : q = U.length := hq _ rfl
  dsimp only [optA, optB, optF] at hOm hOn ⊢
  rw [hna.out] at hOm
  rw [hnb.out] at hOn
  obtain ⟨Am, cm, rfl, rm⟩ := own_rdI hOm
  obtain ⟨An, cn, rfl, rn⟩ := own_rdI hOn
  replace bx := bx.keep k1 (fun e => by omega)
  replace gK := keep_br gK k1 (by omega)
  clear k1 hOm hOn hq
  have blm := Blk.new w6 26 #[.slice Am na cm, .slice An nb cn]
  have kA := (Keep.refl NoB w6).alloc (.cells #[.slice Am na cm, .slice An nb cn] 26)
  replace gK := keepN gK kA
  replace bx := bx.keep kA id
  replace hR := hR.keep kA (fun _ _ => id)
  replace rm := rm.keepN kA
  replace rn := rn.keepN kA
  clear kA
  obtain ⟨x0, x1⟩ := blk2 bx
  go_wp2_with fail
  refine (HSW.out _ (hL.out.keep gK) (ha.out.keepN gK) (hr.out.keepN gK)).mono ?_
  rintro e w7 ⟨rfl, k1⟩
  replace gK := keepN gK k1
  replace bx := bx.keep k1 id
  replace hR := hR.keep k1 (fun _ _ => id)
  replace rm := rm.keepN k1
  replace rn := rn.keepN k1
  replace blm := blm.keep k1 id
  clear k1 x0 x1
  go_wp2_with fail
  refine (HRR.out _ (hL.out.keep gK)).mono ?_
  rintro e w8 ⟨vy, vy2, rfl, hOy, hOz, k1⟩
  dsimp only [spA, spB, spE] at hOy hOz ⊢
  rw [hna.out] at hOy
  rw [hnb.out] at hOz
  obtain ⟨Ay, cy, rfl, ry⟩ := own_rdI hOy
  obtain ⟨Az, cz, rfl, rz⟩ := own_rdI hOz
  replace gK := keepN gK k1
  replace bx := bx.keep k1 id
  replace hR := hR.keep k1 (fun _ _ => id)
  replace rm := rm.keepN k1
  replace rn := rn.keepN k1
  replace blm := blm.keep k1 id
  clear k1 hOy hOz
  have bly := Blk.new w8 26 #[.slice Ay na cy, .slice Az nb cz]
  have kA := (Keep.refl NoB w8).alloc (.cells #[.slice Ay na cy, .slice Az nb cz] 26)
  replace gK := keepN gK kA
  replace bx := bx.keep kA id
  replace hR := hR.keep kA (fun _ _ => id)
  replace rm := rm.keepN kA
  replace rn := rn.keepN kA
  replace blm := blm.keep kA id
  replace ry := ry.keepN kA
  replace rz := rz.keepN kA
  clear kA
  obtain ⟨x0, x1⟩ := blk2 bx
  obtain ⟨m0, m1⟩ := blk2 blm
  go_wp2_with fail
  refine (HI.out _ _ _ _ _ rm rn (ha.out.keepN gK) (hr.out.keepN gK)).mono ?_
  rintro e w9 ⟨rfl, k1⟩
  replace gK := keepN gK k1
  replace bx := bx.keep k1 id
  replace hR := hR.keep k1 (fun _ _ => id)
  replace bly := bly.keep k1 id
  replace ry := ry.keepN k1
  replace rz := rz.keepN k1
  clear k1 rm rn x0 x1 m0 m1 blm
  obtain ⟨x0, x1⟩ := blk2 bx
  obtain ⟨y0, y1⟩ := blk2 bly
  go_wp2_with fail
  refine (V.at_any _ br _ _ _ hR).mono ?_
  rintro e w10 ⟨rfl, rfl⟩
  clear hR
  go_wp2_with fail
  refine (HI.out _ _ _ _ _ ry rz (ha.out.keepN gK) (hr.out.keepN gK)).mono ?_
  rintro e w11 ⟨rfl, k1⟩
  replace gK := keepN gK k1
  have rb := rd_n hb.out gK
  clear k1 ry rz x0 x1 y0 y1 bx bly
  go_wp2_with fail
  refine (V.on_any _ B b d rb HL.out).mono ?_
  rintro e v0 ⟨br2, rfl, hR, k1⟩
  have hbr2 : w.heap.size ≤ br2 := Nat.le_trans gK.size hR.1
  replace gK := keepN gK k1
  clear k1 rb
  have hR := reel_new hR
  go_wp2_with fail
  refine (HD1.out _ br2 _ (fun k hk => hk.2) hR).mono ?_
  rintro e v1 ⟨vx, vx2, qx, rfl, hOx, hOw, hR, hqx, k1⟩
  replace gK := keep_br gK k1 hbr2
  clear k1
  dsimp only [optA, optB, optF] at hOx hOw ⊢
  obtain rfl : qx = Q := hqx _ rfl
  rw [HM.out] at hOx
  rw [HN.out] at hOw
  obtain ⟨Ax, cx, rfl, rx⟩ := own_rdI hOx
  obtain ⟨Aw, cw, rfl, rq⟩ := own_rdI hOw
  clear hOx hOw hqx
  have blx := Blk.new v1 26 #[.slice Ax mx cx, .slice Aw my cw]
  have kA := (Keep.refl NoB v1).alloc (.cells #[.slice Ax mx cx, .slice Aw my cw] 26)
  replace gK := keepN gK kA
  replace hR := hR.keep kA (fun _ _ => id)
  replace rx := rx.keepN kA
  replace rq := rq.keepN kA
  clear kA
  obtain ⟨x0, x1⟩ := blk2 blx
  go_wp2_with fail
  refine (HX2.out _ _ _ _ _ rx rq).mono ?_
  rintro e v2 ⟨vv, rfl, hv, k1⟩
  obtain ⟨Av, cv, rfl, rv, _⟩ := own_rd hv
  replace gK := keepN gK k1
  replace hR := hR.keep k1 (fun _ _ => id)
  have rb := rd_n hb.out gK
  clear k1 rx rq hv x0 x1 blx
  go_wp2
  refine wp_region_sh ((0, false) :: (1, false) :: (2, false) :: (3, false) :: (4, false) :: (5, false) :: (6, false) :: (7, false) :: (8, false) :: (9, false) :: (10, false) :: (11, false) :: []) (fun w' => Keep NoB v2 w') (by kernel_rfl) (by kernel_rfl) (by rfl) (by kernel_rfl) (stable_keep v2) (Keep.refl NoB v2).drew ?_
  refine shM_step rfl rfl rfl (by rfl) (by rfl) ?_
  apply Exists.intro
  refine ⟨fun z K hK => ?_, ?_, ?_⟩
  · go_big_quiet_op
    exact hK _ rfl
  · kernel_rfl
  refine shM_step rfl rfl rfl (by rfl) (by rfl) ?_
  apply Exists.intro
  refine ⟨fun z K hK => ?_, ?_, ?_⟩
  · go_big_quiet_op
    exact hK _ rfl
  · kernel_rfl
  refine shM_step rfl rfl rfl (by rfl) (by rfl) ?_
  apply Exists.intro
  refine ⟨fun z K hK => ?_, ?_, ?_⟩
  · go_big_quiet_op
    exact hK _ rfl
  · kernel_rfl
  refine shM_step rfl rfl rfl (by rfl) (by rfl) ?_
  apply Exists.intro
  refine ⟨fun z K hK => ?_, ?_, ?_⟩
  · go_big_quiet_op
    exact hK _ rfl
  · kernel_rfl
  refine shM_step rfl rfl rfl (by rfl) (by rfl) ?_
  apply Exists.intro
  refine ⟨fun z K hK => ?_, ?_, ?_⟩
  · have cu_ : ∀ y : KW z.w, (convert 23 9 (.slice Av V2.length cv)).run Tryd.prog y.w = .ok (.string S2) y.w := fun y => by have := V.conv_rd (c := cv) (rd_n rv (keepN z.has y.keep)); rw [HS.out] at this; exact this
    go_big_quiet_op
    exact hK _ rfl
  · kernel_rfl
  refine shM_step rfl rfl rfl (by rfl) (by rfl) ?_
  apply Exists.intro
  refine ⟨fun z K hK => ?_, ?_, ?_⟩
  · go_big_quiet_op
    exact hK _ rfl
  · kernel_rfl
  refine shM_step rfl rfl rfl (by rfl) (by rfl) ?_
  apply Exists.intro
  refine ⟨fun z K hK => ?_, ?_, ?_⟩
  · go_big_quiet_op
    exact hK _ rfl
  · kernel_rfl
  refine shM_step rfl rfl rfl (by rfl) (by rfl) ?_
  apply Exists.intro
  refine ⟨fun z K hK => ?_, ?_, ?_⟩
  · go_big_quiet_op
    apply Exists.intro
    refine ⟨fun y => ?_, ?_⟩
    · go_at_call 21
      exact kept_of (at_gen hR (keepN z.has y.keep))
    · exact hK _ rfl
  · kernel_rfl
  refine shM_step rfl rfl rfl (by rfl) (by rfl) ?_
  apply Exists.intro
  refine ⟨fun z K hK => ?_, ?_, ?_⟩
  · go_big_quiet_op
    exact hK _ rfl
  · kernel_rfl
  refine shM_step rfl rfl rfl (by rfl) (by rfl) ?_
  apply Exists.intro
  refine ⟨fun z K hK => ?_, ?_, ?_⟩
  · have cb_ : ∀ (c : Nat) (y : KW z.w), (convert 23 9 (.slice B qx c)).run Tryd.prog y.w = .ok (.string S2) y.w := fun c y => by have := V.conv_rd (c := c) (rd_take (rd_n rb (keepN z.has y.keep)) qx); rw [HTL.out, HT.out, HS.out] at this; exact this
    go_big_quiet_op
    exact hK _ rfl
  · kernel_rfl
  refine shM_step rfl rfl rfl (by rfl) (by rfl) ?_
  apply Exists.intro
  refine ⟨fun z K hK => ?_, ?_, ?_⟩
  · go_big_quiet_op
    exact hK _ rfl
  · kernel_rfl
  refine shM_step rfl rfl rfl (by rfl) (by rfl) ?_
  apply Exists.intro
  refine ⟨fun z K hK => ?_, ?_, ?_⟩
  · go_big_quiet_op
    exact hK _ rfl
  · kernel_rfl
  refine shM_nil (fun z => ?_)
  have k5 := z.has
  replace gK := keepN gK k5
  generalize z.w = w12 at k5 gK ⊢
  clear k5 rv hR rb
  go_wp2_with fail
  refine (HRT.out _ (hL.out.keep gK)).mono ?_
  rintro e w13 ⟨vt, vt2, rfl, hOt, hOs, k1⟩
  replace gK := keepN gK k1
  clear k1
  dsimp only [spA, spB, spE] at hOt hOs ⊢
  obtain ⟨At, ct, rfl, rt⟩ := own_rdI hOt
  obtain ⟨As, cs, rfl, rs⟩ := own_rdI hOs
  clear hOt hOs
  clear rt rs
  replace gK := gK.alloc (.cells #[.slice At 0 ct, .slice As 0 cs] 26)
  simp only [List.length_nil]
  go_wp2
  go_ret
  exact ⟨rfl, gK⟩

set_option maxRecDepth 100000 in
set_option maxHeartbeats 8000000 in
theorem both_yny (A : Option Addr) (a : List Int) (na ca : Nat) (A0 : Option Addr) (r : List Int) (nb cb : Nat) (B : Option Addr) (b : List UInt8) (d : Nat) (S : ByteArray) (s : List UInt8) (w : World) (hL : Hid (LetAt w)) (ha : Hid (Rd w A (ivs a))) (hr : Hid (Rd w A0 (ivs r))) (hna : Hid (a.length = na)) (hnb : Hid (r.length = nb)) (hb : Hid (V.Rd w B b)) (_hc : b.length ≤ d) (hs : Hid (S.data.toList = s)) (h1 : na ≤ 100) (h1b : nb ≤ 100) (h2 : b.length ≤ 100) (h3 : S.size ≤ 200) (hok : Hid (okG a r = true)) (hd : decG b 0 = none) (ya yr : List Int) (ht : rdG s = some (ya, yr)) :
    Calls Tryd.prog 7 #[.agg #[.slice A na ca, .slice A0 nb cb], .slice B b.length d, .string S] w fun e w' => e = .returned (.bool true) ∧ Keep NoB w w' := by
  have bx := Blk.new w 26 #[.slice A na ca, .slice A0 nb cb]
  have gK := (Keep.refl NoB w).alloc (.cells #[.slice A na ca, .slice A0 nb cb] 26)
  have HL : Hid (b.length ≤ 140737488355328) := by show _ ≤ _; omega
  have HLE : Hid (b.length ≤ 100) := h2
  have HG := Lib.hid (fun w => great_no none A A0 0 0 na ca nb cb w (by decide) h1 h1b)
  have hq2 : decide ((100 : Int) < (b.length : Int)) = false := by rw [decide_eq_false_iff_not]; omega
  have hq3 : decide ((200 : Int) < (S.size : Int)) = false := by rw [decide_eq_false_iff_not]; omega
  clear h2
  have HX := Lib.hid (fun w ha hr => encodeG_any A a na ca A0 r nb cb w ha hr hna hnb (by omega) (by omega))
  have HD1 := Lib.hid (fun w br O hO h => decodeG_any w br O b 0 hO h HL.out)
  have HRT := Lib.hid (fun w hL => readG_any S s w hL hs (by omega))
  rw [ht] at HRT
  rw [hd] at HD1
  rw [encG_ok hok.out, chkG_ok hok.out] at HX
  obtain ⟨t1, t2⟩ := sh_rdG ht
  have hyl := ((okG_iff ya yr).1 t1).1
  have HSH := Lib.hid (fun A c B d w hL ha hr => showG_any A ya ya.length c B yr yr.length d w hL ha hr rfl rfl (by omega) (by omega))
  rw [t2, str_of hs.out] at HSH
  have qT := list_self S
  clear t1 t2 hyl
  clear ht
  have hok2 := hok.out
  have HF := Lib.hid (fun w br O hO h hlen => decodeG_any w br O (bytesG a r ++ b) 0 hO h hlen)
  rw [decG_front hok2 b] at HF
  have HI := Lib.hid (fun A1 c1 B1 d1 w ha1 hr1 ha2 hr2 => same_any A1 a na c1 B1 r nb d1 A a na ca A0 r nb cb w ha1 hr1 ha2 hr2 hna hnb hna hnb (by omega) (by omega) (by omega) (by omega) true (by show true = _; simp))
  have HSW := Lib.hid (fun w hL ha hr => showG_any A a na ca A0 r nb cb w hL ha hr hna hnb (by omega) (by omega))
  have HRR := Lib.hid (fun w hL => readG_any (W.str (shG a r)) (shG a r) w hL rfl (by rw [size_of (s := shG a r) (by simp)]; have := shG_len a r; omega))
  rw [rdG_sh hok2] at HRR
  have hul := bytesG_len hok2
  obtain ⟨U, hU⟩ : ∃ U, bytesG a r = U := ⟨_, rfl⟩
  rw [hU] at HX HF hul
  obtain ⟨TS, hTS⟩ : ∃ TS, W.str (shG a r) = TS := ⟨_, rfl⟩
  rw [hTS] at HSW HRR
  have qU2 : ((U.length : Int) != (U.length : Int)) = false := by simp
  clear hok2 hU hTS
  clear hd
  go_enter Tryd.func7, Tryd.ntmps7
  go_wp2_with fail
  refine (alive_any _ (hL.out.keep gK)).mono ?_
  rintro e w1 ⟨rfl, k1⟩
  replace bx := bx.keep k1 id
  replace gK := keepN gK k1
  obtain ⟨x0, x1⟩ := blk2 bx
  clear k1
  go_wp2_with fail
  refine (HG.out _).mono ?_
  rintro e w1b ⟨rfl, k1⟩
  replace bx := bx.keep k1 id
  replace gK := keepN gK k1
  clear x0 x1 k1
  obtain ⟨x0, x1⟩ := blk2 bx
  go_wp2_with fail
  refine (HX.out _ (ha.out.keepN gK) (hr.out.keepN gK)).mono ?_
  rintro e w2 ⟨vu, rfl, hu, k1⟩
  replace gK := keepN gK k1
  replace bx := bx.keep k1 id
  clear x0 x1 k1
  obtain ⟨Au, cu, rfl, ru, _⟩ := own_rd hu
  have hm2 := made_own w2
  have ru2 := rd_n ru ((Keep.refl NoB w2).alloc (.cells #[] 5))
  go_wp2_with (first | (at_builtin; refine V.wpList_append_rd _ rfl (.tmp 48) (.tmp 49) rfl (.slice (some ⟨w2.heap.size, 0, none⟩) 0 0) [] U Au cu rfl hm2.1 rfl ru2 (by simp; omega) ?_; intro v1 w3 hown hg hat; have hap := own_app hm2 ((Keep.refl NoB w2).alloc _) hown hg hat; rw [List.nil_append] at hap; have rb3 := rd_n hb.out (keepN gK hap.2); clear hown hg hat) | (at_builtin; refine V.wpList_append_rd _ rfl (.tmp 50) (.tmp 51) rfl v1 U b B d rfl hap.1.1 rfl rb3 (by have := HLE.out; omega) ?_; intro v2 w4 hown hg hat; have hap2 := own_app hap.1 hap.2 hown hg hat; clear hown hg hat))
  obtain ⟨A2, c2, rfl, r2, _⟩ := own_rd hap2.1
  replace bx := bx.keep hap2.2 id
  replace gK := keepN gK hap2.2
  clear hap hap2 hm2 ru2 rb3 hu ru
  have HUL : Hid ((U ++ b).length ≤ 140737488355328) := by show _ ≤ _; have := HLE.out; rw [List.length_append]; omega
  go_wp2_with fail
  refine (V.on_any _ A2 (U ++ b) c2 r2 HUL.out).mono ?_
  rintro e w5 ⟨br, rfl, hR, k1⟩
  have hs4 := gK.size
  have hbr : w4.heap.size ≤ br := hR.1
  have hbl4 := bx.lt
  replace gK := keepN gK k1
  replace bx := bx.keep k1 id
  clear k1 r2
  have hR := reel_new hR
  go_wp2_with fail
  refine (HF.out _ br _ (fun k hk => hk.2) hR HUL.out).mono ?_
  rintro e w6 ⟨vm, vm2, q, rfl, hOm, hOn, hR, hq, k1⟩
  obtain rfl : q = U.length := hq _ rfl
  dsimp only [optA, optB, optF] at hOm hOn ⊢
  rw [hna.out] at hOm
  rw [hnb.out] at hOn
  obtain ⟨Am, cm, rfl, rm⟩ := own_rdI hOm
  obtain ⟨An, cn, rfl, rn⟩ := own_rdI hOn
  replace bx := bx.keep k1 (fun e => by omega)
  replace gK := keep_br gK k1 (by omega)
  clear k1 hOm hOn hq
  have blm := Blk.new w6 26 #[.slice Am na cm, .slice An nb cn]
  have kA := (Keep.refl NoB w6).alloc (.cells #[.slice Am na cm, .slice An nb cn] 26)
  replace gK := keepN gK kA
  replace bx := bx.keep kA id
  replace hR := hR.keep kA (fun _ _ => id)
  replace rm := rm.keepN kA
  replace rn := rn.keepN kA
  clear kA
  obtain ⟨x0, x1⟩ := blk2 bx
  go_wp2_with fail
  refine (HSW.out _ (hL.out.keep gK) (ha.out.keepN gK) (hr.out.keepN gK)).mono ?_
  rintro e w7 ⟨rfl, k1⟩
  replace gK := keepN gK k1
  replace bx := bx.keep k1 id
  replace hR := hR.keep k1 (fun _ _ => id)
  replace rm := rm.keepN k1
  replace rn := rn.keepN k1
  replace blm := blm.keep k1 id
  clear k1 x0 x1
  go_wp2_with fail
  refine (HRR.out _ (hL.out.keep gK)).mono ?_
  rintro e w8 ⟨vy, vy2, rfl, hOy, hOz, k1⟩
  dsimp only [spA, spB, spE] at hOy hOz ⊢
  rw [hna.out] at hOy
  rw [hnb.out] at hOz
  obtain ⟨Ay, cy, rfl, ry⟩ := own_rdI hOy
  obtain ⟨Az, cz, rfl, rz⟩ := own_rdI hOz
  replace gK := keepN gK k1
  replace bx := bx.keep k1 id
  replace hR := hR.keep k1 (fun _ _ => id)
  replace rm := rm.keepN k1
  replace rn := rn.keepN k1
  replace blm := blm.keep k1 id
  clear k1 hOy hOz
  have bly := Blk.new w8 26 #[.slice Ay na cy, .slice Az nb cz]
  have kA := (Keep.refl NoB w8).alloc (.cells #[.slice Ay na cy, .slice Az nb cz] 26)
  replace gK := keepN gK kA
  replace bx := bx.keep kA id
  replace hR := hR.keep kA (fun _ _ => id)
  replace rm := rm.keepN kA
  replace rn := rn.keepN kA
  replace blm := blm.keep kA id
  replace ry := ry.keepN kA
  replace rz := rz.keepN kA
  clear kA
  obtain ⟨x0, x1⟩ := blk2 bx
  obtain ⟨m0, m1⟩ := blk2 blm
  go_wp2_with fail
  refine (HI.out _ _ _ _ _ rm rn (ha.out.keepN gK) (hr.out.keepN gK)).mono ?_
  rintro e w9 ⟨rfl, k1⟩
  replace gK := keepN gK k1
  replace bx := bx.keep k1 id
  replace hR := hR.keep k1 (fun _ _ => id)
  replace bly := bly.keep k1 id
  replace ry := ry.keepN k1
  replace rz := rz.keepN k1
  clear k1 rm rn x0 x1 m0 m1 blm
  obtain ⟨x0, x1⟩ := blk2 bx
  obtain ⟨y0, y1⟩ := blk2 bly
  go_wp2_with fail
  refine (V.at_any _ br _ _ _ hR).mono ?_
  rintro e w10 ⟨rfl, rfl⟩
  clear hR
  go_wp2_with fail
  refine (HI.out _ _ _ _ _ ry rz (ha.out.keepN gK) (hr.out.keepN gK)).mono ?_
  rintro e w11 ⟨rfl, k1⟩
  replace gK := keepN gK k1
  have rb := rd_n hb.out gK
  clear k1 ry rz x0 x1 y0 y1 bx bly
  go_wp2_with fail
  refine (V.on_any _ B b d rb HL.out).mono ?_
  rintro e v0 ⟨br2, rfl, hR, k1⟩
  have hbr2 : w.heap.size ≤ br2 := Nat.le_trans gK.size hR.1
  replace gK := keepN gK k1
  clear k1 rb
  have hR := reel_new hR
  go_wp2_with fail
  refine (HD1.out _ br2 _ (fun k hk => hk.2) hR).mono ?_
  rintro e v1 ⟨vx, vx2, qx, rfl, hOx, hOw, hR, hqx, k1⟩
  replace gK := keep_br gK k1 hbr2
  clear k1
  dsimp only [optA, optB, optF] at hOx hOw ⊢
  obtain ⟨Ax, cx, rfl, rx⟩ := own_rdI hOx
  obtain ⟨Aw, cw, rfl, rq⟩ := own_rdI hOw
  replace gK := gK.alloc (.cells #[.slice Ax 0 cx, .slice Aw 0 cw] 26)
  clear hOx hOw hqx hR rx rq
  simp only [List.length_nil]
  go_wp2_with fail
  refine (HRT.out _ (hL.out.keep gK)).mono ?_
  rintro e w13 ⟨vt, vt2, rfl, hOt, hOs, k1⟩
  replace gK := keepN gK k1
  clear k1
  dsimp only [spA, spB, spE] at hOt hOs ⊢
  obtain ⟨At, ct, rfl, rt⟩ := own_rdI hOt
  obtain ⟨As, cs, rfl, rs⟩ := own_rdI hOs
  clear hOt hOs
  have blt := Blk.new w13 26 #[.slice At ya.length ct, .slice As yr.length cs]
  have kA := (Keep.refl NoB w13).alloc (.cells #[.slice At ya.length ct, .slice As yr.length cs] 26)
  replace gK := keepN gK kA
  replace rt := rt.keepN kA
  replace rs := rs.keepN kA
  clear kA
  obtain ⟨t0, t1⟩ := blk2 blt
  go_wp2_with fail
  refine (HSH.out _ _ _ _ _ (hL.out.keep gK) rt rs).mono ?_
  rintro e w14 ⟨rfl, k1⟩
  replace gK := keepN gK k1
  clear k1
  go_wp2
  go_ret
  exact ⟨rfl, gK⟩

set_option maxRecDepth 100000 in
set_option maxHeartbeats 8000000 in
theorem both_ynn (A : Option Addr) (a : List Int) (na ca : Nat) (A0 : Option Addr) (r : List Int) (nb cb : Nat) (B : Option Addr) (b : List UInt8) (d : Nat) (S : ByteArray) (s : List UInt8) (w : World) (hL : Hid (LetAt w)) (ha : Hid (Rd w A (ivs a))) (hr : Hid (Rd w A0 (ivs r))) (hna : Hid (a.length = na)) (hnb : Hid (r.length = nb)) (hb : Hid (V.Rd w B b)) (_hc : b.length ≤ d) (hs : Hid (S.data.toList = s)) (h1 : na ≤ 100) (h1b : nb ≤ 100) (h2 : b.length ≤ 100) (h3 : S.size ≤ 200) (hok : Hid (okG a r = true)) (hd : decG b 0 = none) (ht : rdG s = none) :
    Calls Tryd.prog 7 #[.agg #[.slice A na ca, .slice A0 nb cb], .slice B b.length d, .string S] w fun e w' => e = .returned (.bool true) ∧ Keep NoB w w' := by
  have bx := Blk.new w 26 #[.slice A na ca, .slice A0 nb cb]
  have gK := (Keep.refl NoB w).alloc (.cells #[.slice A na ca, .slice A0 nb cb] 26)
  have HL : Hid (b.length ≤ 140737488355328) := by show _ ≤ _; omega
  have HLE : Hid (b.length ≤ 100) := h2
  have HG := Lib.hid (fun w => great_no none A A0 0 0 na ca nb cb w (by decide) h1 h1b)
  have hq2 : decide ((100 : Int) < (b.length : Int)) = false := by rw [decide_eq_false_iff_not]; omega
  have hq3 : decide ((200 : Int) < (S.size : Int)) = false := by rw [decide_eq_false_iff_not]; omega
  clear h2
  have HX := Lib.hid (fun w ha hr => encodeG_any A a na ca A0 r nb cb w ha hr hna hnb (by omega) (by omega))
  have HD1 := Lib.hid (fun w br O hO h => decodeG_any w br O b 0 hO h HL.out)
  have HRT := Lib.hid (fun w hL => readG_any S s w hL hs (by omega))
  rw [ht] at HRT
  rw [hd] at HD1
  rw [encG_ok hok.out, chkG_ok hok.out] at HX
  clear ht
  have hok2 := hok.out
  have HF := Lib.hid (fun w br O hO h hlen => decodeG_any w br O (bytesG a r ++ b) 0 hO h hlen)
  rw [decG_front hok2 b] at HF
  have HI := Lib.hid (fun A1 c1 B1 d1 w ha1 hr1 ha2 hr2 => same_any A1 a na c1 B1 r nb d1 A a na ca A0 r nb cb w ha1 hr1 ha2 hr2 hna hnb hna hnb (by omega) (by omega) (by omega) (by omega) true (by show true = _; simp))
  have HSW := Lib.hid (fun w hL ha hr => showG_any A a na ca A0 r nb cb w hL ha hr hna hnb (by omega) (by omega))
  have HRR := Lib.hid (fun w hL => readG_any (W.str (shG a r)) (shG a r) w hL rfl (by rw [size_of (s := shG a r) (by simp)]; have := shG_len a r; omega))
  rw [rdG_sh hok2] at HRR
  have hul := bytesG_len hok2
  obtain ⟨U, hU⟩ : ∃ U, bytesG a r = U := ⟨_, rfl⟩
  rw [hU] at HX HF hul
  obtain ⟨TS, hTS⟩ : ∃ TS, W.str (shG a r) = TS := ⟨_, rfl⟩
  rw [hTS] at HSW HRR
  have qU2 : ((U.length : Int) != (U.length : Int)) = false := by simp
  clear hok2 hU hTS
  clear hd
  go_enter Tryd.func7, Tryd.ntmps7
  go_wp2_with fail
  refine (alive_any _ (hL.out.keep gK)).mono ?_
  rintro e w1 ⟨rfl, k1⟩
  replace bx := bx.keep k1 id
  replace gK := keepN gK k1
  obtain ⟨x0, x1⟩ := blk2 bx
  clear k1
  go_wp2_with fail
  refine (HG.out _).mono ?_
  rintro e w1b ⟨rfl, k1⟩
  replace bx := bx.keep k1 id
  replace gK := keepN gK k1
  clear x0 x1 k1
  obtain ⟨x0, x1⟩ := blk2 bx
  go_wp2_with fail
  refine (HX.out _ (ha.out.keepN gK) (hr.out.keepN gK)).mono ?_
  rintro e w2 ⟨vu, rfl, hu, k1⟩
  replace gK := keepN gK k1
  replace bx := bx.keep k1 id
  clear x0 x1 k1
  obtain ⟨Au, cu, rfl, ru, _⟩ := own_rd hu
  have hm2 := made_own w2
  have ru2 := rd_n ru ((Keep.refl NoB w2).alloc (.cells #[] 5))
  go_wp2_with (first | (at_builtin; refine V.wpList_append_rd _ rfl (.tmp 48) (.tmp 49) rfl (.slice (some ⟨w2.heap.size, 0, none⟩) 0 0) [] U Au cu rfl hm2.1 rfl ru2 (by simp; omega) ?_; intro v1 w3 hown hg hat; have hap := own_app hm2 ((Keep.refl NoB w2).alloc _) hown hg hat; rw [List.nil_append] at hap; have rb3 := rd_n hb.out (keepN gK hap.2); clear hown hg hat) | (at_builtin; refine V.wpList_append_rd _ rfl (.tmp 50) (.tmp 51) rfl v1 U b B d rfl hap.1.1 rfl rb3 (by have := HLE.out; omega) ?_; intro v2 w4 hown hg hat; have hap2 := own_app hap.1 hap.2 hown hg hat; clear hown hg hat))
  obtain ⟨A2, c2, rfl, r2, _⟩ := own_rd hap2.1
  replace bx := bx.keep hap2.2 id
  replace gK := keepN gK hap2.2
  clear hap hap2 hm2 ru2 rb3 hu ru
  have HUL : Hid ((U ++ b).length ≤ 140737488355328) := by show _ ≤ _; have := HLE.out; rw [List.length_append]; omega
  go_wp2_with fail
  refine (V.on_any _ A2 (U ++ b) c2 r2 HUL.out).mono ?_
  rintro e w5 ⟨br, rfl, hR, k1⟩
  have hs4 := gK.size
  have hbr : w4.heap.size ≤ br := hR.1
  have hbl4 := bx.lt
  replace gK := keepN gK k1
  replace bx := bx.keep k1 id
  clear k1 r2
  have hR := reel_new hR
  go_wp2_with fail
  refine (HF.out _ br _ (fun k hk => hk.2) hR HUL.out).mono ?_
  rintro e w6 ⟨vm, vm2, q, rfl, hOm, hOn, hR, hq, k1⟩
  obtain rfl : q = U.length := hq _ rfl
  dsimp only [optA, optB, optF] at hOm hOn ⊢
  rw [hna.out] at hOm
  rw [hnb.out] at hOn
  obtain ⟨Am, cm, rfl, rm⟩ := own_rdI hOm
  obtain ⟨An, cn, rfl, rn⟩ := own_rdI hOn
  replace bx := bx.keep k1 (fun e => by omega)
  replace gK := keep_br gK k1 (by omega)
  clear k1 hOm hOn hq
  have blm := Blk.new w6 26 #[.slice Am na cm, .slice An nb cn]
  have kA := (Keep.refl NoB w6).alloc (.cells #[.slice Am na cm, .slice An nb cn] 26)
  replace gK := keepN gK kA
  replace bx := bx.keep kA id
  replace hR := hR.keep kA (fun _ _ => id)
  replace rm := rm.keepN kA
  replace rn := rn.keepN kA
  clear kA
  obtain ⟨x0, x1⟩ := blk2 bx
  go_wp2_with fail
  refine (HSW.out _ (hL.out.keep gK) (ha.out.keepN gK) (hr.out.keepN gK)).mono ?_
  rintro e w7 ⟨rfl, k1⟩
  replace gK := keepN gK k1
  replace bx := bx.keep k1 id
  replace hR := hR.keep k1 (fun _ _ => id)
  replace rm := rm.keepN k1
  replace rn := rn.keepN k1
  replace blm := blm.keep k1 id
  clear k1 x0 x1
  go_wp2_with fail
  refine (HRR.out _ (hL.out.keep gK)).mono ?_
  rintro e w8 ⟨vy, vy2, rfl, hOy, hOz, k1⟩
  dsimp only [spA, spB, spE] at hOy hOz ⊢
  rw [hna.out] at hOy
  rw [hnb.out] at hOz
  obtain ⟨Ay, cy, rfl, ry⟩ := own_rdI hOy
  obtain ⟨Az, cz, rfl, rz⟩ := own_rdI hOz
  replace gK := keepN gK k1
  replace bx := bx.keep k1 id
  replace hR := hR.keep k1 (fun _ _ => id)
  replace rm := rm.keepN k1
  replace rn := rn.keepN k1
  replace blm := blm.keep k1 id
  clear k1 hOy hOz
  have bly := Blk.new w8 26 #[.slice Ay na cy, .slice Az nb cz]
  have kA := (Keep.refl NoB w8).alloc (.cells #[.slice Ay na cy, .slice Az nb cz] 26)
  replace gK := keepN gK kA
  replace bx := bx.keep kA id
  replace hR := hR.keep kA (fun _ _ => id)
  replace rm := rm.keepN kA
  replace rn := rn.keepN kA
  replace blm := blm.keep kA id
  replace ry := ry.keepN kA
  replace rz := rz.keepN kA
  clear kA
  obtain ⟨x0, x1⟩ := blk2 bx
  obtain ⟨m0, m1⟩ := blk2 blm
  go_wp2_with fail
  refine (HI.out _ _ _ _ _ rm rn (ha.out.keepN gK) (hr.out.keepN gK)).mono ?_
  rintro e w9 ⟨rfl, k1⟩
  replace gK := keepN gK k1
  replace bx := bx.keep k1 id
  replace hR := hR.keep k1 (fun _ _ => id)
  replace bly := bly.keep k1 id
  replace ry := ry.keepN k1
  replace rz := rz.keepN k1
  clear k1 rm rn x0 x1 m0 m1 blm
  obtain ⟨x0, x1⟩ := blk2 bx
  obtain ⟨y0, y1⟩ := blk2 bly
  go_wp2_with fail
  refine (V.at_any _ br _ _ _ hR).mono ?_
  rintro e w10 ⟨rfl, rfl⟩
  clear hR
  go_wp2_with fail
  refine (HI.out _ _ _ _ _ ry rz (ha.out.keepN gK) (hr.out.keepN gK)).mono ?_
  rintro e w11 ⟨rfl, k1⟩
  replace gK := keepN gK k1
  have rb := rd_n hb.out gK
  clear k1 ry rz x0 x1 y0 y1 bx bly
  go_wp2_with fail
  refine (V.on_any _ B b d rb HL.out).mono ?_
  rintro e v0 ⟨br2, rfl, hR, k1⟩
  have hbr2 : w.heap.size ≤ br2 := Nat.le_trans gK.size hR.1
  replace gK := keepN gK k1
  clear k1 rb
  have hR := reel_new hR
  go_wp2_with fail
  refine (HD1.out _ br2 _ (fun k hk => hk.2) hR).mono ?_
  rintro e v1 ⟨vx, vx2, qx, rfl, hOx, hOw, hR, hqx, k1⟩
  replace gK := keep_br gK k1 hbr2
  clear k1
  dsimp only [optA, optB, optF] at hOx hOw ⊢
  obtain ⟨Ax, cx, rfl, rx⟩ := own_rdI hOx
  obtain ⟨Aw, cw, rfl, rq⟩ := own_rdI hOw
  replace gK := gK.alloc (.cells #[.slice Ax 0 cx, .slice Aw 0 cw] 26)
  clear hOx hOw hqx hR rx rq
  simp only [List.length_nil]
  go_wp2_with fail
  refine (HRT.out _ (hL.out.keep gK)).mono ?_
  rintro e w13 ⟨vt, vt2, rfl, hOt, hOs, k1⟩
  replace gK := keepN gK k1
  clear k1
  dsimp only [spA, spB, spE] at hOt hOs ⊢
  obtain ⟨At, ct, rfl, rt⟩ := own_rdI hOt
  obtain ⟨As, cs, rfl, rs⟩ := own_rdI hOs
  clear hOt hOs
  clear rt rs
  replace gK := gK.alloc (.cells #[.slice At 0 ct, .slice As 0 cs] 26)
  simp only [List.length_nil]
  go_wp2
  go_ret
  exact ⟨rfl, gK⟩

set_option maxRecDepth 100000 in
set_option maxHeartbeats 8000000 in
theorem both_nyy (A : Option Addr) (a : List Int) (na ca : Nat) (A0 : Option Addr) (r : List Int) (nb cb : Nat) (B : Option Addr) (b : List UInt8) (d : Nat) (S : ByteArray) (s : List UInt8) (w : World) (hL : Hid (LetAt w)) (ha : Hid (Rd w A (ivs a))) (hr : Hid (Rd w A0 (ivs r))) (hna : Hid (a.length = na)) (hnb : Hid (r.length = nb)) (hb : Hid (V.Rd w B b)) (hc : b.length ≤ d) (hs : Hid (S.data.toList = s)) (h1 : na ≤ 100) (h1b : nb ≤ 100) (h2 : b.length ≤ 100) (h3 : S.size ≤ 200) (hok : Hid (okG a r = false)) (xa xr : List Int) (Q : Nat) (hd : decG b 0 = some ((xa, xr), Q)) (ya yr : List Int) (ht : rdG s = some (ya, yr)) :
    Calls Tryd.prog 7 #[.agg #[.slice A na ca, .slice A0 nb cb], .slice B b.length d, .string S] w fun e w' => e = .returned (.bool true) ∧ Keep NoB w w' := by
  have bx := Blk.new w 26 #[.slice A na ca, .slice A0 nb cb]
  have gK := (Keep.refl NoB w).alloc (.cells #[.slice A na ca, .slice A0 nb cb] 26)
  have HL : Hid (b.length ≤ 140737488355328) := by show _ ≤ _; omega
  have HLE : Hid (b.length ≤ 100) := h2
  have HG := Lib.hid (fun w => great_no none A A0 0 0 na ca nb cb w (by decide) h1 h1b)
  have hq2 : decide ((100 : Int) < (b.length : Int)) = false := by rw [decide_eq_false_iff_not]; omega
  have hq3 : decide ((200 : Int) < (S.size : Int)) = false := by rw [decide_eq_false_iff_not]; omega
  clear h2
  have HX := Lib.hid (fun w ha hr => encodeG_any A a na ca A0 r nb cb w ha hr hna hnb (by omega) (by omega))
  have HD1 := Lib.hid (fun w br O hO h => decodeG_any w br O b 0 hO h HL.out)
  have HRT := Lib.hid (fun w hL => readG_any S s w hL hs (by omega))
  rw [ht] at HRT
  rw [hd] at HD1
  rw [encG_no hok.out, chkG_no hok.out] at HX
  obtain ⟨t1, t2⟩ := sh_rdG ht
  have hyl := ((okG_iff ya yr).1 t1).1
  have HSH := Lib.hid (fun A c B d w hL ha hr => showG_any A ya ya.length c B yr yr.length d w hL ha hr rfl rfl (by omega) (by omega))
  rw [t2, str_of hs.out] at HSH
  have qT := list_self S
  clear t1 t2 hyl
  clear ht
  obtain ⟨o1, o2, o3⟩ := decG_ok hd
  obtain ⟨mx, hmx⟩ : ∃ mx, xa.length = mx := ⟨_, rfl⟩
  obtain ⟨my, hmy⟩ : ∃ my, xr.length = my := ⟨_, rfl⟩
  have HM := Lib.hid hmx
  have HN := Lib.hid hmy
  have hxl := ((okG_iff xa xr).1 o1).1
  rw [hmx, hmy] at hxl
  have HX2 := Lib.hid (fun A c B d w ha hr => encodeG_any A xa mx c B xr my d w ha hr hmx hmy (by omega) (by omega))
  rw [encG_ok o1, chkG_ok o1] at HX2
  have HT : Hid (b.take Q = bytesG xa xr) := by
    show _ = _
    rw [List.drop_zero] at o2
    rw [Nat.zero_add] at o3
    rw [o3]
    conv => lhs; rw [o2]
    rw [List.take_left]
  have hpl : Q ≤ b.length := by
    have h1 := congrArg List.length o2
    simp at h1
    omega
  have HTL := Lib.hid (show (b.take Q).length = Q by simp; omega)
  have hpd : Q ≤ d := by omega
  obtain ⟨V2, hV2⟩ : ∃ V2, bytesG xa xr = V2 := ⟨_, rfl⟩
  rw [hV2] at HX2 HT
  obtain ⟨S2, hS2⟩ : ∃ S2, V.str V2 = S2 := ⟨_, rfl⟩
  have HS := Lib.hid hS2
  have qS := list_self S2
  clear hd o1 o2 o3 hmx hmy hxl hV2 hS2
  go_enter Tryd.func7, Tryd.ntmps7
  go_wp2_with fail
  refine (alive_any _ (hL.out.keep gK)).mono ?_
  rintro e w1 ⟨rfl, k1⟩
  replace bx := bx.keep k1 id
  replace gK := keepN gK k1
  obtain ⟨x0, x1⟩ := blk2 bx
  clear k1
  go_wp2_with fail
  refine (HG.out _).mono ?_
  rintro e w1b ⟨rfl, k1⟩
  replace bx := bx.keep k1 id
  replace gK := keepN gK k1
  clear x0 x1 k1
  obtain ⟨x0, x1⟩ := blk2 bx
  go_wp2_with fail
  refine (HX.out _ (ha.out.keepN gK) (hr.out.keepN gK)).mono ?_
  rintro e w2 ⟨vu, rfl, hu, k1⟩
  replace gK := keepN gK k1
  replace bx := bx.keep k1 id
  clear x0 x1 k1
  have rb := rd_n hb.out gK
  clear hu bx
  go_wp2_with fail
  refine (V.on_any _ B b d rb HL.out).mono ?_
  rintro e v0 ⟨br2, rfl, hR, k1⟩
  have hbr2 : w.heap.size ≤ br2 := Nat.le_trans gK.size hR.1
  replace gK := keepN gK k1
  clear k1 rb
  have hR := reel_new hR
  go_wp2_with fail
  refine (HD1.out _ br2 _ (fun k hk => hk.2) hR).mono ?_
  rintro e v1 ⟨vx, vx2, qx, rfl, hOx, hOw, hR, hqx, k1⟩
  replace gK := keep_br gK k1 hbr2
  clear k1
  dsimp only [optA, optB, optF] at hOx hOw ⊢
  obtain rfl : qx = Q := hqx _ rfl
  rw [HM.out] at hOx
  rw [HN.out] at hOw
  obtain ⟨Ax, cx, rfl, rx⟩ := own_rdI hOx
  obtain ⟨Aw, cw, rfl, rq⟩ := own_rdI hOw
  clear hOx hOw hqx
  have blx := Blk.new v1 26 #[.slice Ax mx cx, .slice Aw my cw]
  have kA := (Keep.refl NoB v1).alloc (.cells #[.slice Ax mx cx, .slice Aw my cw] 26)
  replace gK := keepN gK kA
  replace hR := hR.keep kA (fun _ _ => id)
  replace rx := rx.keepN kA
  replace rq := rq.keepN kA
  clear kA
  obtain ⟨x0, x1⟩ := blk2 blx
  go_wp2_with fail
  refine (HX2.out _ _ _ _ _ rx rq).mono ?_
  rintro e v2 ⟨vv, rfl, hv, k1⟩
  obtain ⟨Av, cv, rfl, rv, _⟩ := own_rd hv
  replace gK := keepN gK k1
  replace hR := hR.keep k1 (fun _ _ => id)
  have rb := rd_n hb.out gK
  clear k1 rx rq hv x0 x1 blx
  go_wp2
  refine wp_region_sh ((0, false) :: (1, false) :: (2, false) :: (3, false) :: (4, false) :: (5, false) :: (6, false) :: (7, false) :: (8, false) :: (9, false) :: (10, false) :: (11, false) :: []) (fun w' => Keep NoB v2 w') (by kernel_rfl) (by kernel_rfl) (by rfl) (by kernel_rfl) (stable_keep v2) (Keep.refl NoB v2).drew ?_
  refine shM_step rfl rfl rfl (by rfl) (by rfl) ?_
  apply Exists.intro
  refine ⟨fun z K hK => ?_, ?_, ?_⟩
  · go_big_quiet_op
    exact hK _ rfl
  · kernel_rfl
  refine shM_step rfl rfl rfl (by rfl) (by rfl) ?_
  apply Exists.intro
  refine ⟨fun z K hK => ?_, ?_, ?_⟩
  · go_big_quiet_op
    exact hK _ rfl
  · kernel_rfl
  refine shM_step rfl rfl rfl (by rfl) (by rfl) ?_
  apply Exists.intro
  refine ⟨fun z K hK => ?_, ?_, ?_⟩
  · go_big_quiet_op
    exact hK _ rfl
  · kernel_rfl
  refine shM_step rfl rfl rfl (by rfl) (by rfl) ?_
  apply Exists.intro
  refine ⟨fun z K hK => ?_, ?_, ?_⟩
  · go_big_quiet_op
    exact hK _ rfl
  · kernel_rfl
  refine shM_step rfl rfl rfl (by rfl) (by rfl) ?_
  apply Exists.intro
  refine ⟨fun z K hK => ?_, ?_, ?_⟩
  · have cu_ : ∀ y : KW z.w, (convert 23 9 (.slice Av V2.length cv)).run Tryd.prog y.w = .ok (.string S2) y.w := fun y => by have := V.conv_rd (c := cv) (rd_n rv (keepN z.has y.keep)); rw [HS.out] at this; exact this
    go_big_quiet_op
    exact hK _ rfl
  · kernel_rfl
  refine shM_step rfl rfl rfl (by rfl) (by rfl) ?_
  apply Exists.intro
  refine ⟨fun z K hK => ?_, ?_, ?_⟩
  · go_big_quiet_op
    exact hK _ rfl
  · kernel_rfl
  refine shM_step rfl rfl rfl (by rfl) (by rfl) ?_
  apply Exists.intro
  refine ⟨fun z K hK => ?_, ?_, ?_⟩
  · go_big_quiet_op
    exact hK _ rfl
  · kernel_rfl
  refine shM_step rfl rfl rfl (by rfl) (by rfl) ?_
  apply Exists.intro
  refine ⟨fun z K hK => ?_, ?_, ?_⟩
  · go_big_quiet_op
    apply Exists.intro
    refine ⟨fun y => ?_, ?_⟩
    · go_at_call 21
      exact kept_of (at_gen hR (keepN z.has y.keep))
    · exact hK _ rfl
  · kernel_rfl
  refine shM_step rfl rfl rfl (by rfl) (by rfl) ?_
  apply Exists.intro
  refine ⟨fun z K hK => ?_, ?_, ?_⟩
  · go_big_quiet_op
    exact hK _ rfl
  · kernel_rfl
  refine shM_step rfl rfl rfl (by rfl) (by rfl) ?_
  apply Exists.intro
  refine ⟨fun z K hK => ?_, ?_, ?_⟩
  · have cb_ : ∀ (c : Nat) (y : KW z.w), (convert 23 9 (.slice B qx c)).run Tryd.prog y.w = .ok (.string S2) y.w := fun c y => by have := V.conv_rd (c := c) (rd_take (rd_n rb (keepN z.has y.keep)) qx); rw [HTL.out, HT.out, HS.out] at this; exact this
    go_big_quiet_op
    exact hK _ rfl
  · kernel_rfl
  refine shM_step rfl rfl rfl (by rfl) (by rfl) ?_
  apply Exists.intro
  refine ⟨fun z K hK => ?_, ?_, ?_⟩
  · go_big_quiet_op
    exact hK _ rfl
  · kernel_rfl
  refine shM_step rfl rfl rfl (by rfl) (by rfl) ?_
  apply Exists.intro
  refine ⟨fun z K hK => ?_, ?_, ?_⟩
  · go_big_quiet_op
    exact hK _ rfl
  · kernel_rfl
  refine shM_nil (fun z => ?_)
  have k5 := z.has
  replace gK := keepN gK k5
  generalize z.w = w12 at k5 gK ⊢
  clear k5 rv hR rb
  go_wp2_with fail
  refine (HRT.out _ (hL.out.keep gK)).mono ?_
  rintro e w13 ⟨vt, vt2, rfl, hOt, hOs, k1⟩
  replace gK := keepN gK k1
  clear k1
  dsimp only [spA, spB, spE] at hOt hOs ⊢
  obtain ⟨At, ct, rfl, rt⟩ := own_rdI hOt
  obtain ⟨As, cs, rfl, rs⟩ := own_rdI hOs
  clear hOt hOs
  have blt := Blk.new w13 26 #[.slice At ya.length ct, .slice As yr.length cs]
  have kA := (Keep.refl NoB w13).alloc (.cells #[.slice At ya.length ct, .slice As yr.length cs] 26)
  replace gK := keepN gK kA
  replace rt := rt.keepN kA
  replace rs := rs.keepN kA
  clear kA
  obtain ⟨t0, t1⟩ := blk2 blt
  go_wp2_with fail
  refine (HSH.out _ _ _ _ _ (hL.out.keep gK) rt rs).mono ?_
  rintro e w14 ⟨rfl, k1⟩
  replace gK := keepN gK k1
  clear k1
  go_wp2
  go_ret
  exact ⟨rfl, gK⟩

set_option maxRecDepth 100000 in
set_option maxHeartbeats 8000000 in
theorem both_nyn (A : Option Addr) (a : List Int) (na ca : Nat) (A0 : Option Addr) (r : List Int) (nb cb : Nat) (B : Option Addr) (b : List UInt8) (d : Nat) (S : ByteArray) (s : List UInt8) (w : World) (hL : Hid (LetAt w)) (ha : Hid (Rd w A (ivs a))) (hr : Hid (Rd w A0 (ivs r))) (hna : Hid (a.length = na)) (hnb : Hid (r.length = nb)) (hb : Hid (V.Rd w B b)) (hc : b.length ≤ d) (hs : Hid (S.data.toList = s)) (h1 : na ≤ 100) (h1b : nb ≤ 100) (h2 : b.length ≤ 100) (h3 : S.size ≤ 200) (hok : Hid (okG a r = false)) (xa xr : List Int) (Q : Nat) (hd : decG b 0 = some ((xa, xr), Q)) (ht : rdG s = none) :
    Calls Tryd.prog 7 #[.agg #[.slice A na ca, .slice A0 nb cb], .slice B b.length d, .string S] w fun e w' => e = .returned (.bool true) ∧ Keep NoB w w' := by
  have bx := Blk.new w 26 #[.slice A na ca, .slice A0 nb cb]
  have gK := (Keep.refl NoB w).alloc (.cells #[.slice A na ca, .slice A0 nb cb] 26)
  have HL : Hid (b.length ≤ 140737488355328) := by show _ ≤ _; omega
  have HLE : Hid (b.length ≤ 100) := h2
  have HG := Lib.hid (fun w => great_no none A A0 0 0 na ca nb cb w (by decide) h1 h1b)
  have hq2 : decide ((100 : Int) < (b.length : Int)) = false := by rw [decide_eq_false_iff_not]; omega
  have hq3 : decide ((200 : Int) < (S.size : Int)) = false := by rw [decide_eq_false_iff_not]; omega
  clear h2
  have HX := Lib.hid (fun w ha hr => encodeG_any A a na ca A0 r nb cb w ha hr hna hnb (by omega) (by omega))
  have HD1 := Lib.hid (fun w br O hO h => decodeG_any w br O b 0 hO h HL.out)
  have HRT := Lib.hid (fun w hL => readG_any S s w hL hs (by omega))
  rw [ht] at HRT
  rw [hd] at HD1
  rw [encG_no hok.out, chkG_no hok.out] at HX
  clear ht
  obtain ⟨o1, o2, o3⟩ := decG_ok hd
  obtain ⟨mx, hmx⟩ : ∃ mx, xa.length = mx := ⟨_, rfl⟩
  obtain ⟨my, hmy⟩ : ∃ my, xr.length = my := ⟨_, rfl⟩
  have HM := Lib.hid hmx
  have HN := Lib.hid hmy
  have hxl := ((okG_iff xa xr).1 o1).1
  rw [hmx, hmy] at hxl
  have HX2 := Lib.hid (fun A c B d w ha hr => encodeG_any A xa mx c B xr my d w ha hr hmx hmy (by omega) (by omega))
  rw [encG_ok o1, chkG_ok o1] at HX2
  have HT : Hid (b.take Q = bytesG xa xr) := by
    show _ = _
    rw [List.drop_zero] at o2
    rw [Nat.zero_add] at o3
    rw [o3]
    conv => lhs; rw [o2]
    rw [List.take_left]
  have hpl : Q ≤ b.length := by
    have h1 := congrArg List.length o2
    simp at h1
    omega
  have HTL := Lib.hid (show (b.take Q).length = Q by simp; omega)
  have hpd : Q ≤ d := by omega
  obtain ⟨V2, hV2⟩ : ∃ V2, bytesG xa xr = V2 := ⟨_, rfl⟩
  rw [hV2] at HX2 HT
  obtain ⟨S2, hS2⟩ : ∃ S2, V.str V2 = S2 := ⟨_, rfl⟩
  have HS := Lib.hid hS2
  have qS := list_self S2
  clear hd o1 o2 o3 hmx hmy hxl hV2 hS2
  go_enter Tryd.func7, Tryd.ntmps7
  go_wp2_with fail
  refine (alive_any _ (hL.out.keep gK)).mono ?_
  rintro e w1 ⟨rfl, k1⟩
  replace bx := bx.keep k1 id
  replace gK := keepN gK k1
  obtain ⟨x0, x1⟩ := blk2 bx
  clear k1
  go_wp2_with fail
  refine (HG.out _).mono ?_
  rintro e w1b ⟨rfl, k1⟩
  replace bx := bx.keep k1 id
  replace gK := keepN gK k1
  clear x0 x1 k1
  obtain ⟨x0, x1⟩ := blk2 bx
  go_wp2_with fail
  refine (HX.out _ (ha.out.keepN gK) (hr.out.keepN gK)).mono ?_
  rintro e w2 ⟨vu, rfl, hu, k1⟩
  replace gK := keepN gK k1
  replace bx := bx.keep k1 id
  clear x0 x1 k1
  have rb := rd_n hb.out gK
  clear hu bx
  go_wp2_with fail
  refine (V.on_any _ B b d rb HL.out).mono ?_
  rintro e v0 ⟨br2, rfl, hR, k1⟩
  have hbr2 : w.heap.size ≤ br2 := Nat.le_trans gK.size hR.1
  replace gK := keepN gK k1
  clear k1 rb
  have hR := reel_new hR
  go_wp2_with fail
  refine (HD1.out _ br2 _ (fun k hk => hk.2) hR).mono ?_
  rintro e v1 ⟨vx, vx2, qx, rfl, hOx, hOw, hR, hqx, k1⟩
  replace gK := keep_br gK k1 hbr2
  clear k1
  dsimp only [optA, optB, optF] at hOx hOw ⊢
  obtain rfl : qx = Q := hqx _ rfl
  rw [HM.out] at hOx
  rw [HN.out] at hOw
  obtain ⟨Ax, cx, rfl, rx⟩ := own_rdI hOx
  obtain ⟨Aw, cw, rfl, rq⟩ := own_rdI hOw
  clear hOx hOw hqx
  have blx := Blk.new v1 26 #[.slice Ax mx cx, .slice Aw my cw]
  have kA := (Keep.refl NoB v1).alloc (.cells #[.slice Ax mx cx, .slice Aw my cw] 26)
  replace gK := keepN gK kA
  replace hR := hR.keep kA (fun _ _ => id)
  replace rx := rx.keepN kA
  replace rq := rq.keepN kA
  clear kA
  obtain ⟨x0, x1⟩ := blk2 blx
  go_wp2_with fail
  refine (HX2.out _ _ _ _ _ rx rq).mono ?_
  rintro e v2 ⟨vv, rfl, hv, k1⟩
  obtain ⟨Av, cv, rfl, rv, _⟩ := own_rd hv
  replace gK := keepN gK k1
  replace hR := hR.keep k1 (fun _ _ => id)
  have rb := rd_n hb.out gK
  clear k1 rx rq hv x0 x1 blx
  go_wp2
  refine wp_region_sh ((0, false) :: (1, false) :: (2, false) :: (3, false) :: (4, false) :: (5, false) :: (6, false) :: (7, false) :: (8, false) :: (9, false) :: (10, false) :: (11, false) :: []) (fun w' => Keep NoB v2 w') (by kernel_rfl) (by kernel_rfl) (by rfl) (by kernel_rfl) (stable_keep v2) (Keep.refl NoB v2).drew ?_
  refine shM_step rfl rfl rfl (by rfl) (by rfl) ?_
  apply Exists.intro
  refine ⟨fun z K hK => ?_, ?_, ?_⟩
  · go_big_quiet_op
    exact hK _ rfl
  · kernel_rfl
  refine shM_step rfl rfl rfl (by rfl) (by rfl) ?_
  apply Exists.intro
  refine ⟨fun z K hK => ?_, ?_, ?_⟩
  · go_big_quiet_op
    exact hK _ rfl
  · kernel_rfl
  refine shM_step rfl rfl rfl (by rfl) (by rfl) ?_
  apply Exists.intro
  refine ⟨fun z K hK => ?_, ?_, ?_⟩
  · go_big_quiet_op
    exact hK _ rfl
  · kernel_rfl
  refine shM_step rfl rfl rfl (by rfl) (by rfl) ?_
  apply Exists.intro
  refine ⟨fun z K hK => ?_, ?_, ?_⟩
  · go_big_quiet_op
    exact hK _ rfl
  · kernel_rfl
  refine shM_step rfl rfl rfl (by rfl) (by rfl) ?_
  apply Exists.intro
  refine ⟨fun z K hK => ?_, ?_, ?_⟩
  · have cu_ : ∀ y : KW z.w, (convert 23 9 (.slice Av V2.length cv)).run Tryd.prog y.w = .ok (.string S2) y.w := fun y => by have := V.conv_rd (c := cv) (rd_n rv (keepN z.has y.keep)); rw [HS.out] at this; exact this
    go_big_quiet_op
    exact hK _ rfl
  · kernel_rfl
  refine shM_step rfl rfl rfl (by rfl) (by rfl) ?_
  apply Exists.intro
  refine ⟨fun z K hK => ?_, ?_, ?_⟩
  · go_big_quiet_op
    exact hK _ rfl
  · kernel_rfl
  refine shM_step rfl rfl rfl (by rfl) (by rfl) ?_
  apply Exists.intro
  refine ⟨fun z K hK => ?_, ?_, ?_⟩
  · go_big_quiet_op
    exact hK _ rfl
  · kernel_rfl
  refine shM_step rfl rfl rfl (by rfl) (by rfl) ?_
  apply Exists.intro
  refine ⟨fun z K hK => ?_, ?_, ?_⟩
  · go_big_quiet_op
    apply Exists.intro
    refine ⟨fun y => ?_, ?_⟩
    · go_at_call 21
      exact kept_of (at_gen hR (keepN z.has y.keep))
    · exact hK _ rfl
  · kernel_rfl
  refine shM_step rfl rfl rfl (by rfl) (by rfl) ?_
  apply Exists.intro
  refine ⟨fun z K hK => ?_, ?_, ?_⟩
  · go_big_quiet_op
    exact hK _ rfl
  · kernel_rfl
  refine shM_step rfl rfl rfl (by rfl) (by rfl) ?_
  apply Exists.intro
  refine ⟨fun z K hK => ?_, ?_, ?_⟩
  · have cb_ : ∀ (c : Nat) (y : KW z.w), (convert 23 9 (.slice B qx c)).run Tryd.prog y.w = .ok (.string S2) y.w := fun c y => by have := V.conv_rd (c := c) (rd_take (rd_n rb (keepN z.has y.keep)) qx); rw [HTL.out, HT.out, HS.out] at this; exact this
    go_big_quiet_op
    exact hK _ rfl
  · kernel_rfl
  refine shM_step rfl rfl rfl (by rfl) (by rfl) ?_
  apply Exists.intro
  refine ⟨fun z K hK => ?_, ?_, ?_⟩
  · go_big_quiet_op
    exact hK _ rfl
  · kernel_rfl
  refine shM_step rfl rfl rfl (by rfl) (by rfl) ?_
  apply Exists.intro
  refine ⟨fun z K hK => ?_, ?_, ?_⟩
  · go_big_quiet_op
    exact hK _ rfl
  · kernel_rfl
  refine shM_nil (fun z => ?_)
  have k5 := z.has
  replace gK := keepN gK k5
  generalize z.w = w12 at k5 gK ⊢
  clear k5 rv hR rb
  go_wp2_with fail
  refine (HRT.out _ (hL.out.keep gK)).mono ?_
  rintro e w13 ⟨vt, vt2, rfl, hOt, hOs, k1⟩
  replace gK := keepN gK k1
  clear k1
  dsimp only [spA, spB, spE] at hOt hOs ⊢
  obtain ⟨At, ct, rfl, rt⟩ := own_rdI hOt
  obtain ⟨As, cs, rfl, rs⟩ := own_rdI hOs
  clear hOt hOs
  clear rt rs
  replace gK := gK.alloc (.cells #[.slice At 0 ct, .slice As 0 cs] 26)
  simp only [List.length_nil]
  go_wp2
  go_ret
  exact ⟨rfl, gK⟩

set_option maxRecDepth 100000 in
set_option maxHeartbeats 8000000 in
theorem both_nny (A : Option Addr) (a : List Int) (na ca : Nat) (A0 : Option Addr) (r : List Int) (nb cb : Nat) (B : Option Addr) (b : List UInt8) (d : Nat) (S : ByteArray) (s : List UInt8) (w : World) (hL : Hid (LetAt w)) (ha : Hid (Rd w A (ivs a))) (hr : Hid (Rd w A0 (ivs r))) (hna : Hid (a.length = na)) (hnb : Hid (r.length = nb)) (hb : Hid (V.Rd w B b)) (_hc : b.length ≤ d) (hs : Hid (S.data.toList = s)) (h1 : na ≤ 100) (h1b : nb ≤ 100) (h2 : b.length ≤ 100) (h3 : S.size ≤ 200) (hok : Hid (okG a r = false)) (hd : decG b 0 = none) (ya yr : List Int) (ht : rdG s = some (ya, yr)) :
    Calls Tryd.prog 7 #[.agg #[.slice A na ca, .slice A0 nb cb], .slice B b.length d, .string S] w fun e w' => e = .returned (.bool true) ∧ Keep NoB w w' := by
  have bx := Blk.new w 26 #[.slice A na ca, .slice A0 nb cb]
  have gK := (Keep.refl NoB w).alloc (.cells #[.slice A na ca, .slice A0 nb cb] 26)
  have HL : Hid (b.length ≤ 140737488355328) := by show _ ≤ _; omega
  have HLE : Hid (b.length ≤ 100) := h2
  have HG := Lib.hid (fun w => great_no none A A0 0 0 na ca nb cb w (by decide) h1 h1b)
  have hq2 : decide ((100 : Int) < (b.length : Int)) = false := by rw [decide_eq_false_iff_not]; omega
  have hq3 : decide ((200 : Int) < (S.size : Int)) = false := by rw [decide_eq_false_iff_not]; omega
  clear h2
  have HX := Lib.hid (fun w ha hr => encodeG_any A a na ca A0 r nb cb w ha hr hna hnb (by omega) (by omega))
  have HD1 := Lib.hid (fun w br O hO h => decodeG_any w br O b 0 hO h HL.out)
  have HRT := Lib.hid (fun w hL => readG_any S s w hL hs (by omega))
  rw [ht] at HRT
  rw [hd] at HD1
  rw [encG_no hok.out, chkG_no hok.out] at HX
  obtain ⟨t1, t2⟩ := sh_rdG ht
  have hyl := ((okG_iff ya yr).1 t1).1
  have HSH := Lib.hid (fun A c B d w hL ha hr => showG_any A ya ya.length c B yr yr.length d w hL ha hr rfl rfl (by omega) (by omega))
  rw [t2, str_of hs.out] at HSH
  have qT := list_self S
  clear t1 t2 hyl
  clear ht
  clear hd
  go_enter Tryd.func7, Tryd.ntmps7
  go_wp2_with fail
  refine (alive_any _ (hL.out.keep gK)).mono ?_
  rintro e w1 ⟨rfl, k1⟩
  replace bx := bx.keep k1 id
  replace gK := keepN gK k1
  obtain ⟨x0, x1⟩ := blk2 bx
  clear k1
  go_wp2_with fail
  refine (HG.out _).mono ?_
  rintro e w1b ⟨rfl, k1⟩
  replace bx := bx.keep k1 id
  replace gK := keepN gK k1
  clear x0 x1 k1
  obtain ⟨x0, x1⟩ := blk2 bx
  go_wp2_with fail
  refine (HX.out _ (ha.out.keepN gK) (hr.out.keepN gK)).mono ?_
  rintro e w2 ⟨vu, rfl, hu, k1⟩
  replace gK := keepN gK k1
  replace bx := bx.keep k1 id
  clear x0 x1 k1
  have rb := rd_n hb.out gK
  clear hu bx
  go_wp2_with fail
  refine (V.on_any _ B b d rb HL.out).mono ?_
  rintro e v0 ⟨br2, rfl, hR, k1⟩
  have hbr2 : w.heap.size ≤ br2 := Nat.le_trans gK.size hR.1
  replace gK := keepN gK k1
  clear k1 rb
  have hR := reel_new hR
  go_wp2_with fail
  refine (HD1.out _ br2 _ (fun k hk => hk.2) hR).mono ?_
  rintro e v1 ⟨vx, vx2, qx, rfl, hOx, hOw, hR, hqx, k1⟩
  replace gK := keep_br gK k1 hbr2
  clear k1
  dsimp only [optA, optB, optF] at hOx hOw ⊢
  obtain ⟨Ax, cx, rfl, rx⟩ := own_rdI hOx
  obtain ⟨Aw, cw, rfl, rq⟩ := own_rdI hOw
  replace gK := gK.alloc (.cells #[.slice Ax 0 cx, .slice Aw 0 cw] 26)
  clear hOx hOw hqx hR rx rq
  simp only [List.length_nil]
  go_wp2_with fail
  refine (HRT.out _ (hL.out.keep gK)).mono ?_
  rintro e w13 ⟨vt, vt2, rfl, hOt, hOs, k1⟩
  replace gK := keepN gK k1
  clear k1
  dsimp only [spA, spB, spE] at hOt hOs ⊢
  obtain ⟨At, ct, rfl, rt⟩ := own_rdI hOt
  obtain ⟨As, cs, rfl, rs⟩ := own_rdI hOs
  clear hOt hOs
  have blt := Blk.new w13 26 #[.slice At ya.length ct, .slice As yr.length cs]
  have kA := (Keep.refl NoB w13).alloc (.cells #[.slice At ya.length ct, .slice As yr.length cs] 26)
  replace gK := keepN gK kA
  replace rt := rt.keepN kA
  replace rs := rs.keepN kA
  clear kA
  obtain ⟨t0, t1⟩ := blk2 blt
  go_wp2_with fail
  refine (HSH.out _ _ _ _ _ (hL.out.keep gK) rt rs).mono ?_
  rintro e w14 ⟨rfl, k1⟩
  replace gK := keepN gK k1
  clear k1
  go_wp2
  go_ret
  exact ⟨rfl, gK⟩

set_option maxRecDepth 100000 in
set_option maxHeartbeats 8000000 in
theorem both_nnn (A : Option Addr) (a : List Int) (na ca : Nat) (A0 : Option Addr) (r : List Int) (nb cb : Nat) (B : Option Addr) (b : List UInt8) (d : Nat) (S : ByteArray) (s : List UInt8) (w : World) (hL : Hid (LetAt w)) (ha : Hid (Rd w A (ivs a))) (hr : Hid (Rd w A0 (ivs r))) (hna : Hid (a.length = na)) (hnb : Hid (r.length = nb)) (hb : Hid (V.Rd w B b)) (_hc : b.length ≤ d) (hs : Hid (S.data.toList = s)) (h1 : na ≤ 100) (h1b : nb ≤ 100) (h2 : b.length ≤ 100) (h3 : S.size ≤ 200) (hok : Hid (okG a r = false)) (hd : decG b 0 = none) (ht : rdG s = none) :
    Calls Tryd.prog 7 #[.agg #[.slice A na ca, .slice A0 nb cb], .slice B b.length d, .string S] w fun e w' => e = .returned (.bool true) ∧ Keep NoB w w' := by
  have bx := Blk.new w 26 #[.slice A na ca, .slice A0 nb cb]
  have gK := (Keep.refl NoB w).alloc (.cells #[.slice A na ca, .slice A0 nb cb] 26)
  have HL : Hid (b.length ≤ 140737488355328) := by show _ ≤ _; omega
  have HLE : Hid (b.length ≤ 100) := h2
  have HG := Lib.hid (fun w => great_no none A A0 0 0 na ca nb cb w (by decide) h1 h1b)
  have hq2 : decide ((100 : Int) < (b.length : Int)) = false := by rw [decide_eq_false_iff_not]; omega
  have hq3 : decide ((200 : Int) < (S.size : Int)) = false := by rw [decide_eq_false_iff_not]; omega
  clear h2
  have HX := Lib.hid (fun w ha hr => encodeG_any A a na ca A0 r nb cb w ha hr hna hnb (by omega) (by omega))
  have HD1 := Lib.hid (fun w br O hO h => decodeG_any w br O b 0 hO h HL.out)
  have HRT := Lib.hid (fun w hL => readG_any S s w hL hs (by omega))
  rw [ht] at HRT
  rw [hd] at HD1
  rw [encG_no hok.out, chkG_no hok.out] at HX
  clear ht
  clear hd
  go_enter Tryd.func7, Tryd.ntmps7
  go_wp2_with fail
  refine (alive_any _ (hL.out.keep gK)).mono ?_
  rintro e w1 ⟨rfl, k1⟩
  replace bx := bx.keep k1 id
  replace gK := keepN gK k1
  obtain ⟨x0, x1⟩ := blk2 bx
  clear k1
  go_wp2_with fail
  refine (HG.out _).mono ?_
  rintro e w1b ⟨rfl, k1⟩
  replace bx := bx.keep k1 id
  replace gK := keepN gK k1
  clear x0 x1 k1
  obtain ⟨x0, x1⟩ := blk2 bx
  go_wp2_with fail
  refine (HX.out _ (ha.out.keepN gK) (hr.out.keepN gK)).mono ?_
  rintro e w2 ⟨vu, rfl, hu, k1⟩
  replace gK := keepN gK k1
  replace bx := bx.keep k1 id
  clear x0 x1 k1
  have rb := rd_n hb.out gK
  clear hu bx
  go_wp2_with fail
  refine (V.on_any _ B b d rb HL.out).mono ?_
  rintro e v0 ⟨br2, rfl, hR, k1⟩
  have hbr2 : w.heap.size ≤ br2 := Nat.le_trans gK.size hR.1
  replace gK := keepN gK k1
  clear k1 rb
  have hR := reel_new hR
  go_wp2_with fail
  refine (HD1.out _ br2 _ (fun k hk => hk.2) hR).mono ?_
  rintro e v1 ⟨vx, vx2, qx, rfl, hOx, hOw, hR, hqx, k1⟩
  replace gK := keep_br gK k1 hbr2
  clear k1
  dsimp only [optA, optB, optF] at hOx hOw ⊢
  obtain ⟨Ax, cx, rfl, rx⟩ := own_rdI hOx
  obtain ⟨Aw, cw, rfl, rq⟩ := own_rdI hOw
  replace gK := gK.alloc (.cells #[.slice Ax 0 cx, .slice Aw 0 cw] 26)
  clear hOx hOw hqx hR rx rq
  simp only [List.length_nil]
  go_wp2_with fail
  refine (HRT.out _ (hL.out.keep gK)).mono ?_
  rintro e w13 ⟨vt, vt2, rfl, hOt, hOs, k1⟩
  replace gK := keepN gK k1
  clear k1
  dsimp only [spA, spB, spE] at hOt hOs ⊢
  obtain ⟨At, ct, rfl, rt⟩ := own_rdI hOt
  obtain ⟨As, cs, rfl, rs⟩ := own_rdI hOs
  clear hOt hOs
  clear rt rs
  replace gK := gK.alloc (.cells #[.slice At 0 ct, .slice As 0 cs] 26)
  simp only [List.length_nil]
  go_wp2
  go_ret
  exact ⟨rfl, gK⟩

theorem both_walk (A : Option Addr) (a : List Int) (na ca : Nat) (A0 : Option Addr) (r : List Int) (nb cb : Nat) (B : Option Addr) (b : List UInt8) (d : Nat) (S : ByteArray) (w : World) (hL : LetAt w) (ha : Rd w A (ivs a)) (hr : Rd w A0 (ivs r)) (hna : a.length = na) (hnb : r.length = nb) (hb : V.Rd w B b) (hc : b.length ≤ d) :
    Calls Tryd.prog 7 #[.agg #[.slice A na ca, .slice A0 nb cb], .slice B b.length d, .string S] w fun e w' => e = .returned (.bool true) ∧ Keep NoB w w' := by
  by_cases h : na ≤ 100 ∧ nb ≤ 100 ∧ b.length ≤ 100 ∧ S.size ≤ 200
  · obtain ⟨h1, h1b, h2, h3⟩ := h
    cases ho : okG a r <;> cases hd : decG b 0 <;> cases ht : rdG S.data.toList
    · exact both_nnn A a na ca A0 r nb cb B b d S _ w hL ha hr hna hnb hb hc rfl h1 h1b h2 h3 ho hd ht
    · exact both_nny A a na ca A0 r nb cb B b d S _ w hL ha hr hna hnb hb hc rfl h1 h1b h2 h3 ho hd _ _ ht
    · exact both_nyn A a na ca A0 r nb cb B b d S _ w hL ha hr hna hnb hb hc rfl h1 h1b h2 h3 ho _ _ _ hd ht
    · exact both_nyy A a na ca A0 r nb cb B b d S _ w hL ha hr hna hnb hb hc rfl h1 h1b h2 h3 ho _ _ _ hd _ _ ht
    · exact both_ynn A a na ca A0 r nb cb B b d S _ w hL ha hr hna hnb hb hc rfl h1 h1b h2 h3 ho hd ht
    · exact both_yny A a na ca A0 r nb cb B b d S _ w hL ha hr hna hnb hb hc rfl h1 h1b h2 h3 ho hd _ _ ht
    · exact both_yyn A a na ca A0 r nb cb B b d S _ w hL ha hr hna hnb hb hc rfl h1 h1b h2 h3 ho _ _ _ hd ht
    · exact both_yyy A a na ca A0 r nb cb B b d S _ w hL ha hr hna hnb hb hc rfl h1 h1b h2 h3 ho _ _ _ hd _ _ ht
  · exact both_big A na ca A0 nb cb B b.length d S w hL h

end Go.Proofs.YtieejecodfeodaaDoor.S
