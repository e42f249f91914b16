/-
  ShapeBack's walk: a shape is read from its bytes, whatever stands behind them, and from its text, as it was; what is read of any bytes, and text, has just these. Conditions: the letters stand; list and bytes lie in memory.
-/
import Derived.Test.YtieejecodfeodaaDoorQ8
namespace Go.Proofs.YtieejecodfeodaaDoor.S
open Go.RowKit W

theorem made_own (w : World) : V.OwnB (w.alloc (.cells #[] 5)) (Fresh w) (.slice (some ⟨w.heap.size, 0, none⟩) 0 0) [] :=
  ⟨World.ownsRow_made (e := 5) (size := 1) (base := 0) w #[] 0 (Nat.zero_le _) (Nat.zero_le _) rfl, fun g e => by simp [Value.ownBlock] at e; subst e; exact Nat.le_refl _⟩
theorem rd_take {w : World} {A : Option Addr} {l : List UInt8} (h : V.Rd w A l) (k : Nat) : V.Rd w A (l.take k) := fun h0 => by
  have h1 : 0 < l.length := by simp at h0; omega
  obtain ⟨ad, e, hc⟩ := h h1
  refine ⟨ad, e, fun j u hu => hc j u ?_⟩
  simp only [V.bvs] at hu ⊢
  rw [List.map_take] at hu
  obtain ⟨hj, hv⟩ := List.getElem?_eq_some_iff.1 hu
  rw [List.getElem_take] at hv
  exact List.getElem?_eq_some_iff.2 ⟨_, hv⟩
theorem reel_new {w : World} {br p : Nat} {O : Nat → Prop} {l : List UInt8} (h : V.ReelAt w br O l p) : V.ReelAt w br (fun k => O k ∧ k < w.heap.size) l p := h.mono fun _ ho hk => ⟨ho, hk⟩
theorem str_of {S : ByteArray} {s : List UInt8} (hs : S.data.toList = s) : W.str s = S := by
  subst hs
  apply ByteArray.ext
  simp
theorem encL_one (n : Nat) (h : n ≤ 64) : (V.encL n).length = 1 := by
  have : ∀ n : Fin 65, (V.encL n.1).length = 1 := by decide +kernel
  exact this ⟨n, by omega⟩
theorem bytesT_one {l : List Int} (h : l.length ≤ 64) : (bytesT l).length = 1 + sz l.length := by
  unfold bytesT
  rw [List.length_append, encL_one _ h, packL_length]
theorem decS_front {l : List Int} (h : okS l = true) (b : List UInt8) : decS (bytesT l ++ b) 0 = some (l, (bytesT l).length) := by
  have := decS_enc (l := bytesT l ++ b) (s := b) (p := 0) h rfl
  rw [Nat.zero_add] at this; exact this
theorem shS_len (l : List Int) : (shS l).length ≤ 1024 := by
  unfold shS
  split
  · exact txt_le l
  · simp
theorem opt_some (x : List Int) (q : Nat) : optL (some (x, q)) = x ∧ optE (some (x, q)) = 0 := ⟨rfl, rfl⟩

set_option maxRecDepth 100000 in
set_option maxHeartbeats 1000000 in
theorem back_big (A : Option Addr) (na c : Nat) (B : Option Addr) (m d : Nat) (S : ByteArray) (w : World) (hL : Hid (LetAt w)) (h : ¬ (na ≤ 100 ∧ m ≤ 100 ∧ S.size ≤ 100)) :
    Calls Tryd.prog 6 #[.slice A na c, .slice B m d, .string S] w fun e w' => e = .returned (.bool true) ∧ Keep NoB w w' := by
  by_cases h1 : na ≤ 100
  · by_cases h2 : m ≤ 100
    · have h3 : ¬ S.size ≤ 100 := by omega
      have hq1 : decide ((100 : Int) < (na : Int)) = false := by rw [decide_eq_false_iff_not]; omega
      have hq2 : decide ((100 : Int) < (m : Int)) = false := by rw [decide_eq_false_iff_not]; omega
      have hq3 : decide ((100 : Int) < (S.size : Int)) = true := by rw [decide_eq_true_iff]; omega
      clear h h1 h2 h3
      go_enter Tryd.func6, Tryd.ntmps6
      go_wp2_with fail
      refine (alive_any _ hL.out).mono ?_
      rintro e w1 ⟨rfl, k1⟩
      go_wp2
      go_ret
      exact ⟨rfl, k1⟩
    · have hq1 : decide ((100 : Int) < (na : Int)) = false := by rw [decide_eq_false_iff_not]; omega
      have hq2 : decide ((100 : Int) < (m : Int)) = true := by rw [decide_eq_true_iff]; omega
      clear h h1 h2
      go_enter Tryd.func6, Tryd.ntmps6
      go_wp2_with fail
      refine (alive_any _ hL.out).mono ?_
      rintro e w1 ⟨rfl, k1⟩
      go_wp2
      go_ret
      exact ⟨rfl, k1⟩
  · have hq1 : decide ((100 : Int) < (na : Int)) = true := by rw [decide_eq_true_iff]; omega
    clear h h1
    go_enter Tryd.func6, Tryd.ntmps6
    go_wp2_with fail
    refine (alive_any _ hL.out).mono ?_
    rintro e w1 ⟨rfl, k1⟩
    go_wp2
    go_ret
    exact ⟨rfl, k1⟩

set_option maxRecDepth 100000 in
set_option maxHeartbeats 8000000 in
theorem back_yyy (A : Option Addr) (l : List Int) (na c : Nat) (B : Option Addr) (b : List UInt8) (d : Nat) (S : ByteArray) (s : List UInt8) (w : World) (hL : Hid (LetAt w)) (hr : Hid (Rd w A (ivs l))) (hn : Hid (l.length = na)) (hb : Hid (V.Rd w B b)) (hc : b.length ≤ d) (hs : Hid (S.data.toList = s)) (h1 : na ≤ 100) (h2 : b.length ≤ 100) (h3 : S.size ≤ 100) (hok : Hid (okS l = true)) (xs : List Int) (Q : Nat) (hd : decS b 0 = some (xs, Q)) (ys : List Int) (ht : rdS s = some ys) :
    Calls Tryd.prog 6 #[.slice A na c, .slice B b.length d, .string S] w fun e w' => e = .returned (.bool true) ∧ Keep NoB w w' := by
  have HL : Hid (b.length ≤ 140737488355328) := by show _ ≤ _; omega
  have HLE : Hid (b.length ≤ 100) := h2
  have hq1 : decide ((100 : Int) < (na : Int)) = false := by rw [decide_eq_false_iff_not]; omega
  have hq2 : decide ((100 : Int) < (b.length : Int)) = false := by rw [decide_eq_false_iff_not]; omega
  have hq3 : decide ((100 : Int) < (S.size : Int)) = false := by rw [decide_eq_false_iff_not]; omega
  have hm : na ≤ 9223372036854775807 := by omega
  clear h2
  have HX := Lib.hid (fun w hr => encodeS_any A l na c w hr hn hm)
  have HD1 := Lib.hid (fun w br O h => decodeS_any w br O b 0 h HL.out)
  have HRT := Lib.hid (fun w hL => readS_any S s w hL hs (by omega))
  rw [ht] at HRT
  rw [hd] at HD1
  rw [encS_ok hok.out, chkS_ok hok.out] at HX
  obtain ⟨t1, t2⟩ := sh_rdS ht
  have hyl := ((okS_iff ys).1 t1).1.2
  have HSH := Lib.hid (fun A c w hL hr => showS_any A ys ys.length c w hL hr rfl (by omega))
  rw [t2, str_of hs.out] at HSH
  have qT := list_self S
  clear t1 t2 hyl
  clear ht
  have hok2 := hok.out
  have HF := Lib.hid (fun w br O h hlen => decodeS_any w br O (bytesT l ++ b) 0 h hlen)
  rw [decS_front hok2 b] at HF
  have HI := Lib.hid (fun A1 c1 w h1 h2 => ints_any A1 A l l na na c1 c w h1 h2 hn hn hm hm true (by show _ = _; simp))
  have HSW := Lib.hid (fun w hL hr => showS_any A l na c w hL hr hn hm)
  have HRR := Lib.hid (fun w hL => readS_any (W.str (shS l)) (shS l) w hL rfl (by rw [size_of (s := shS l) (by simp)]; have := shS_len l; omega))
  rw [rdS_sh hok2] at HRR
  have hn64 : l.length ≤ 64 := by have := ((okS_iff l).1 hok2).1; omega
  have hul := bytesT_one hn64
  rw [hn.out] at hul
  have hz : sz na ≤ 100 := by unfold sz; omega
  have hzq : ((na : Int) + 3).tdiv 4 = ((sz na : Nat) : Int) := by unfold sz; rw [Int.tdiv_eq_ediv_of_nonneg (by omega)]; omega
  obtain ⟨z, hzz⟩ : ∃ z, sz na = z := ⟨_, rfl⟩
  rw [hzz] at hul hz hzq
  obtain ⟨U, hU⟩ : ∃ U, bytesT l = U := ⟨_, rfl⟩
  rw [hU] at HX HF hul
  obtain ⟨TS, hTS⟩ : ∃ TS, W.str (shS l) = TS := ⟨_, rfl⟩
  rw [hTS] at HSW HRR
  have qU : ((U.length : Int) != 1 + (z : Int)) = false := by rw [bne_eq_false_iff_eq, hul]; omega
  have qU2 : ((U.length : Int) != (U.length : Int)) = false := by simp
  have HUZ := Lib.hid hul
  have hu100 : U.length ≤ 101 := by omega
  clear hok2 hn64 hU hTS hzz hul
  obtain ⟨o1, o2, o3⟩ := decS_ok hd
  obtain ⟨mx, hmx⟩ : ∃ mx, xs.length = mx := ⟨_, rfl⟩
  have HM := Lib.hid hmx
  have hxl := ((okS_iff xs).1 o1).1.2
  rw [hmx] at hxl
  have HX2 := Lib.hid (fun A c w hr => encodeS_any A xs mx c w hr hmx (by omega))
  rw [encS_ok o1, chkS_ok o1] at HX2
  have HT : Hid (b.take Q = bytesT xs) := by
    show _ = _
    rw [List.drop_zero] at o2
    rw [Nat.zero_add] at o3
    rw [o3]
    conv => lhs; rw [o2]
    rw [List.take_left]
  have hpl : Q ≤ b.length := by
    have h1 := congrArg List.length o2
    simp at h1
    omega
  have HTL := Lib.hid (show (b.take Q).length = Q by simp; omega)
  have hpd : Q ≤ d := by omega
  obtain ⟨V2, hV2⟩ : ∃ V2, bytesT xs = V2 := ⟨_, rfl⟩
  rw [hV2] at HX2 HT
  obtain ⟨S2, hS2⟩ : ∃ S2, V.str V2 = S2 := ⟨_, rfl⟩
  have HS := Lib.hid hS2
  have qS := list_self S2
  clear hd o1 o2 o3 hmx hxl hV2 hS2
  go_enter Tryd.func6, Tryd.ntmps6
  go_wp2_with fail
  refine (alive_any _ hL.out).mono ?_
  rintro e w1 ⟨rfl, gK⟩
  go_wp2_with fail
  refine (HX.out _ (hr.out.keepN gK)).mono ?_
  rintro e w2 ⟨vu, rfl, hu, k1⟩
  replace gK := keepN gK k1
  clear k1
  obtain ⟨Au, cu, rfl, ru, _⟩ := own_rd hu
  have hm2 := made_own w2
  have ru2 := rd_n ru ((Keep.refl NoB w2).alloc (.cells #[] 5))
  go_wp2_with (first | (at_builtin; refine V.wpList_append_rd _ rfl (.tmp 48) (.tmp 49) rfl (.slice (some ⟨w2.heap.size, 0, none⟩) 0 0) [] U Au cu rfl hm2.1 rfl ru2 (by simp; omega) ?_; intro v1 w3 hown hg hat; have hap := own_app hm2 ((Keep.refl NoB w2).alloc _) hown hg hat; rw [List.nil_append] at hap; have rb3 := rd_n hb.out (keepN gK hap.2); clear hown hg hat) | (at_builtin; refine V.wpList_append_rd _ rfl (.tmp 50) (.tmp 51) rfl v1 U b B d rfl hap.1.1 rfl rb3 (by have := HLE.out; omega) ?_; intro v2 w4 hown hg hat; have hap2 := own_app hap.1 hap.2 hown hg hat; clear hown hg hat))
  obtain ⟨A2, c2, rfl, r2, _⟩ := own_rd hap2.1
  replace gK := keepN gK hap2.2
  clear hap hap2 hm2 ru2 rb3 hu ru
  have HUL : Hid ((U ++ b).length ≤ 140737488355328) := by show _ ≤ _; have := HLE.out; rw [List.length_append]; omega
  go_wp2_with fail
  refine (V.on_any _ A2 (U ++ b) c2 r2 HUL.out).mono ?_
  rintro e w5 ⟨br, rfl, hR, k1⟩
  have hs4 := gK.size
  have hbr : w4.heap.size ≤ br := hR.1
  replace gK := keepN gK k1
  clear k1 r2
  go_wp2_with fail
  refine (HF.out _ br _ hR HUL.out).mono ?_
  rintro e w6 ⟨vm, q, rfl, hOm, hR, hq, k1⟩
  obtain rfl : q = U.length := hq _ rfl
  dsimp only [optL, optE] at hOm ⊢
  rw [hn.out] at hOm
  obtain ⟨Am, cm, rfl, rm⟩ := own_rdI hOm
  replace gK := keep_br gK k1 (by omega)
  clear k1 hOm hq
  go_wp2_with fail
  refine (HSW.out _ (hL.out.keep gK) (hr.out.keepN gK)).mono ?_
  rintro e w7 ⟨rfl, k1⟩
  replace gK := keepN gK k1
  replace hR := hR.keep k1 (fun _ _ => id)
  replace rm := rm.keepN k1
  clear k1
  go_wp2_with fail
  refine (HRR.out _ (hL.out.keep gK)).mono ?_
  rintro e w8 ⟨vy, rfl, hOy, k1⟩
  dsimp only [rsL, rsE] at hOy ⊢
  rw [hn.out] at hOy
  obtain ⟨Ay, cy, rfl, ry⟩ := own_rdI hOy
  replace gK := keepN gK k1
  replace hR := hR.keep k1 (fun _ _ => id)
  replace rm := rm.keepN k1
  clear k1 hOy
  go_wp2_with fail
  refine (HI.out _ _ _ rm (hr.out.keepN gK)).mono ?_
  rintro e w9 ⟨rfl, k1⟩
  replace gK := keepN gK k1
  replace hR := hR.keep k1 (fun _ _ => id)
  replace ry := ry.keepN k1
  clear k1 rm
  go_wp2_with fail
  refine (V.at_any _ br _ _ _ hR).mono ?_
  rintro e w10 ⟨rfl, rfl⟩
  clear hR
  go_wp2_with fail
  refine (HI.out _ _ _ ry (hr.out.keepN gK)).mono ?_
  rintro e w11 ⟨rfl, k1⟩
  replace gK := keepN gK k1
  have rb := rd_n hb.out gK
  clear k1 ry
  go_wp2_with fail
  refine (V.on_any _ B b d rb HL.out).mono ?_
  rintro e v0 ⟨br2, rfl, hR, k1⟩
  have hbr2 : w.heap.size ≤ br2 := Nat.le_trans gK.size hR.1
  replace gK := keepN gK k1
  clear k1 rb
  go_wp2_with fail
  refine (HD1.out _ br2 _ hR).mono ?_
  rintro e v1 ⟨vx, qx, rfl, hOx, hR, hqx, k1⟩
  replace gK := keep_br gK k1 hbr2
  clear k1
  dsimp only [optL, optE] at hOx ⊢
  obtain rfl : qx = Q := hqx _ rfl
  rw [HM.out] at hOx
  obtain ⟨Ax, cx, rfl, rx⟩ := own_rdI hOx
  clear hOx hqx
  go_wp2_with fail
  refine (HX2.out _ _ _ rx).mono ?_
  rintro e v2 ⟨vv, rfl, hv, k1⟩
  obtain ⟨Av, cv, rfl, rv, _⟩ := own_rd hv
  replace gK := keepN gK k1
  replace hR := hR.keep k1 (fun _ _ => id)
  have rb := rd_n hb.out gK
  clear k1 rx hv
  go_wp2
  refine wp_region_sh ((0, false) :: (1, false) :: (2, false) :: (3, false) :: (4, false) :: (5, false) :: (6, false) :: (7, false) :: (8, false) :: (9, false) :: (10, false) :: (11, false) :: []) (fun w' => Keep NoB v2 w') (by kernel_rfl) (by kernel_rfl) (by rfl) (by kernel_rfl) (stable_keep v2) (Keep.refl NoB v2).drew ?_
  refine shM_step rfl rfl rfl (by rfl) (by rfl) ?_
  apply Exists.intro
  refine ⟨fun z K hK => ?_, ?_, ?_⟩
  · go_big_quiet_op
    exact hK _ rfl
  · kernel_rfl
  refine shM_step rfl rfl rfl (by rfl) (by rfl) ?_
  apply Exists.intro
  refine ⟨fun z K hK => ?_, ?_, ?_⟩
  · go_big_quiet_op
    exact hK _ rfl
  · kernel_rfl
  refine shM_step rfl rfl rfl (by rfl) (by rfl) ?_
  apply Exists.intro
  refine ⟨fun z K hK => ?_, ?_, ?_⟩
  · go_big_quiet_op
    exact hK _ rfl
  · kernel_rfl
  refine shM_step rfl rfl rfl (by rfl) (by rfl) ?_
  apply Exists.intro
  refine ⟨fun z K hK => ?_, ?_, ?_⟩
  · go_big_quiet_op
    exact hK _ rfl
  · kernel_rfl
  refine shM_step rfl rfl rfl (by rfl) (by rfl) ?_
  apply Exists.intro
  refine ⟨fun z K hK => ?_, ?_, ?_⟩
  · have cu_ : ∀ y : KW z.w, (convert 23 9 (.slice Av V2.length cv)).run Tryd.prog y.w = .ok (.string S2) y.w := fun y => by have := V.conv_rd (c := cv) (rd_n rv (keepN z.has y.keep)); rw [HS.out] at this; exact this
    go_big_quiet_op
    exact hK _ rfl
  · kernel_rfl
  refine shM_step rfl rfl rfl (by rfl) (by rfl) ?_
  apply Exists.intro
  refine ⟨fun z K hK => ?_, ?_, ?_⟩
  · go_big_quiet_op
    exact hK _ rfl
  · kernel_rfl
  refine shM_step rfl rfl rfl (by rfl) (by rfl) ?_
  apply Exists.intro
  refine ⟨fun z K hK => ?_, ?_, ?_⟩
  · go_big_quiet_op
    exact hK _ rfl
  · kernel_rfl
  refine shM_step rfl rfl rfl (by rfl) (by rfl) ?_
  apply Exists.intro
  refine ⟨fun z K hK => ?_, ?_, ?_⟩
  · go_big_quiet_op
    apply Exists.intro
    refine ⟨fun y => ?_, ?_⟩
    · go_at_call 21
      exact kept_of (at_gen hR (keepN z.has y.keep))
    · exact hK _ rfl
  · kernel_rfl
  refine shM_step rfl rfl rfl (by rfl) (by rfl) ?_
  apply Exists.intro
  refine ⟨fun z K hK => ?_, ?_, ?_⟩
  · go_big_quiet_op
    exact hK _ rfl
  · kernel_rfl
  refine shM_step rfl rfl rfl (by rfl) (by rfl) ?_
  apply Exists.intro
  refine ⟨fun z K hK => ?_, ?_, ?_⟩
  · have cb_ : ∀ (c : Nat) (y : KW z.w), (convert 23 9 (.slice B qx c)).run Tryd.prog y.w = .ok (.string S2) y.w := fun c y => by have := V.conv_rd (c := c) (rd_take (rd_n rb (keepN z.has y.keep)) qx); rw [HTL.out, HT.out, HS.out] at this; exact this
    go_big_quiet_op
    exact hK _ rfl
  · kernel_rfl
  refine shM_step rfl rfl rfl (by rfl) (by rfl) ?_
  apply Exists.intro
  refine ⟨fun z K hK => ?_, ?_, ?_⟩
  · go_big_quiet_op
    exact hK _ rfl
  · kernel_rfl
  refine shM_step rfl rfl rfl (by rfl) (by rfl) ?_
  apply Exists.intro
  refine ⟨fun z K hK => ?_, ?_, ?_⟩
  · go_big_quiet_op
    exact hK _ rfl
  · kernel_rfl
  refine shM_nil (fun z => ?_)
  have k5 := z.has
  replace gK := keepN gK k5
  generalize z.w = w12 at k5 gK ⊢
  clear k5 rv hR rb
  go_wp2_with fail
  refine (HRT.out _ (hL.out.keep gK)).mono ?_
  rintro e w13 ⟨vt, rfl, hOt, k1⟩
  replace gK := keepN gK k1
  clear k1
  dsimp only [rsL, rsE] at hOt ⊢
  obtain ⟨At, ct, rfl, rt⟩ := own_rdI hOt
  clear hOt
  go_wp2_with fail
  refine (HSH.out _ _ _ (hL.out.keep gK) rt).mono ?_
  rintro e w14 ⟨rfl, k1⟩
  replace gK := keepN gK k1
  clear k1
  go_wp2
  go_ret
  exact ⟨rfl, gK⟩

set_option maxRecDepth 100000 in
set_option maxHeartbeats 8000000 in
theorem back_yyn (A : Option Addr) (l : List Int) (na c : Nat) (B : Option Addr) (b : List UInt8) (d : Nat) (S : ByteArray) (s : List UInt8) (w : World) (hL : Hid (LetAt w)) (hr : Hid (Rd w A (ivs l))) (hn : Hid (l.length = na)) (hb : Hid (V.Rd w B b)) (hc : b.length ≤ d) (hs : Hid (S.data.toList = s)) (h1 : na ≤ 100) (h2 : b.length ≤ 100) (h3 : S.size ≤ 100) (hok : Hid (okS l = true)) (xs : List Int) (Q : Nat) (hd : decS b 0 = some (xs, Q)) (ht : rdS s = none) :
    Calls Tryd.prog 6 #[.slice A na c, .slice B b.length d, .string S] w fun e w' => e = .returned (.bool true) ∧ Keep NoB w w' := by
  have HL : Hid (b.length ≤ 140737488355328) := by show _ ≤ _; omega
  have HLE : Hid (b.length ≤ 100) := h2
  have hq1 : decide ((100 : Int) < (na : Int)) = false := by rw [decide_eq_false_iff_not]; omega
  have hq2 : decide ((100 : Int) < (b.length : Int)) = false := by rw [decide_eq_false_iff_not]; omega
  have hq3 : decide ((100 : Int) < (S.size : Int)) = false := by rw [decide_eq_false_iff_not]; omega
  have hm : na ≤ 9223372036854775807 := by omega
  clear h2
  have HX := Lib.hid (fun w hr => encodeS_any A l na c w hr hn hm)
  have HD1 := Lib.hid (fun w br O h => decodeS_any w br O b 0 h HL.out)
  have HRT := Lib.hid (fun w hL => readS_any S s w hL hs (by omega))
  rw [ht] at HRT
  rw [hd] at HD1
  rw [encS_ok hok.out, chkS_ok hok.out] at HX
  clear ht
  have hok2 := hok.out
  have HF := Lib.hid (fun w br O h hlen => decodeS_any w br O (bytesT l ++ b) 0 h hlen)
  rw [decS_front hok2 b] at HF
  have HI := Lib.hid (fun A1 c1 w h1 h2 => ints_any A1 A l l na na c1 c w h1 h2 hn hn hm hm true (by show _ = _; simp))
  have HSW := Lib.hid (fun w hL hr => showS_any A l na c w hL hr hn hm)
  have HRR := Lib.hid (fun w hL => readS_any (W.str (shS l)) (shS l) w hL rfl (by rw [size_of (s := shS l) (by simp)]; have := shS_len l; omega))
  rw [rdS_sh hok2] at HRR
  have hn64 : l.length ≤ 64 := by have := ((okS_iff l).1 hok2).1; omega
  have hul := bytesT_one hn64
  rw [hn.out] at hul
  have hz : sz na ≤ 100 := by unfold sz; omega
  have hzq : ((na : Int) + 3).tdiv 4 = ((sz na : Nat) : Int) := by unfold sz; rw [Int.tdiv_eq_ediv_of_nonneg (by omega)]; omega
  obtain ⟨z, hzz⟩ : ∃ z, sz na = z := ⟨_, rfl⟩
  rw [hzz] at hul hz hzq
  obtain ⟨U, hU⟩ : ∃ U, bytesT l = U := ⟨_, rfl⟩
  rw [hU] at HX HF hul
  obtain ⟨TS, hTS⟩ : ∃ TS, W.str (shS l) = TS := ⟨_, rfl⟩
  rw [hTS] at HSW HRR
  have qU : ((U.length : Int) != 1 + (z : Int)) = false := by rw [bne_eq_false_iff_eq, hul]; omega
  have qU2 : ((U.length : Int) != (U.length : Int)) = false := by simp
  have HUZ := Lib.hid hul
  have hu100 : U.length ≤ 101 := by omega
  clear hok2 hn64 hU hTS hzz hul
  obtain ⟨o1, o2, o3⟩ := decS_ok hd
  obtain ⟨mx, hmx⟩ : ∃ mx, xs.length = mx := ⟨_, rfl⟩
  have HM := Lib.hid hmx
  have hxl := ((okS_iff xs).1 o1).1.2
  rw [hmx] at hxl
  have HX2 := Lib.hid (fun A c w hr => encodeS_any A xs mx c w hr hmx (by omega))
  rw [encS_ok o1, chkS_ok o1] at HX2
  have HT : Hid (b.take Q = bytesT xs) := by
    show _ = _
    rw [List.drop_zero] at o2
    rw [Nat.zero_add] at o3
    rw [o3]
    conv => lhs; rw [o2]
    rw [List.take_left]
  have hpl : Q ≤ b.length := by
    have h1 := congrArg List.length o2
    simp at h1
    omega
  have HTL := Lib.hid (show (b.take Q).length = Q by simp; omega)
  have hpd : Q ≤ d := by omega
  obtain ⟨V2, hV2⟩ : ∃ V2, bytesT xs = V2 := ⟨_, rfl⟩
  rw [hV2] at HX2 HT
  obtain ⟨S2, hS2⟩ : ∃ S2, V.str V2 = S2 := ⟨_, rfl⟩
  have HS := Lib.hid hS2
  have qS := list_self S2
  clear hd o1 o2 o3 hmx hxl hV2 hS2
  go_enter Tryd.func6, Tryd.ntmps6
  go_wp2_with fail
  refine (alive_any _ hL.out).mono ?_
  rintro e w1 ⟨rfl, gK⟩
  go_wp2_with fail
  refine (HX.out _ (hr.out.keepN gK)).mono ?_
  rintro e w2 ⟨vu, rfl, hu, k1⟩
  replace gK := keepN gK k1
  clear k1
  obtain ⟨Au, cu, rfl, ru, _⟩ := own_rd hu
  have hm2 := made_own w2
  have ru2 := rd_n ru ((Keep.refl NoB w2).alloc (.cells #[] 5))
  go_wp2_with (first | (at_builtin; refine V.wpList_append_rd _ rfl (.tmp 48) (.tmp 49) rfl (.slice (some ⟨w2.heap.size, 0, none⟩) 0 0) [] U Au cu rfl hm2.1 rfl ru2 (by simp; omega) ?_; intro v1 w3 hown hg hat; have hap := own_app hm2 ((Keep.refl NoB w2).alloc _) hown hg hat; rw [List.nil_append] at hap; have rb3 := rd_n hb.out (keepN gK hap.2); clear hown hg hat) | (at_builtin; refine V.wpList_append_rd _ rfl (.tmp 50) (.tmp 51) rfl v1 U b B d rfl hap.1.1 rfl rb3 (by have := HLE.out; omega) ?_; intro v2 w4 hown hg hat; have hap2 := own_app hap.1 hap.2 hown hg hat; clear hown hg hat))
  obtain ⟨A2, c2, rfl, r2, _⟩ := own_rd hap2.1
  replace gK := keepN gK hap2.2
  clear hap hap2 hm2 ru2 rb3 hu ru
  have HUL : Hid ((U ++ b).length ≤ 140737488355328) := by show _ ≤ _; have := HLE.out; rw [List.length_append]; omega
  go_wp2_with fail
  refine (V.on_any _ A2 (U ++ b) c2 r2 HUL.out).mono ?_
  rintro e w5 ⟨br, rfl, hR, k1⟩
  have hs4 := gK.size
  have hbr : w4.heap.size ≤ br := hR.1
  replace gK := keepN gK k1
  clear k1 r2
  go_wp2_with fail
  refine (HF.out _ br _ hR HUL.out).mono ?_
  rintro e w6 ⟨vm, q, rfl, hOm, hR, hq, k1⟩
  obtain rfl : q = U.length := hq _ rfl
  dsimp only [optL, optE] at hOm ⊢
  rw [hn.out] at hOm
  obtain ⟨Am, cm, rfl, rm⟩ := own_rdI hOm
  replace gK := keep_br gK k1 (by omega)
  clear k1 hOm hq
  go_wp2_with fail
  refine (HSW.out _ (hL.out.keep gK) (hr.out.keepN gK)).mono ?_
  rintro e w7 ⟨rfl, k1⟩
  replace gK := keepN gK k1
  replace hR := hR.keep k1 (fun _ _ => id)
  replace rm := rm.keepN k1
  clear k1
  go_wp2_with fail
  refine (HRR.out _ (hL.out.keep gK)).mono ?_
  rintro e w8 ⟨vy, rfl, hOy, k1⟩
  dsimp only [rsL, rsE] at hOy ⊢
  rw [hn.out] at hOy
  obtain ⟨Ay, cy, rfl, ry⟩ := own_rdI hOy
  replace gK := keepN gK k1
  replace hR := hR.keep k1 (fun _ _ => id)
  replace rm := rm.keepN k1
  clear k1 hOy
  go_wp2_with fail
  refine (HI.out _ _ _ rm (hr.out.keepN gK)).mono ?_
  rintro e w9 ⟨rfl, k1⟩
  replace gK := keepN gK k1
  replace hR := hR.keep k1 (fun _ _ => id)
  replace ry := ry.keepN k1
  clear k1 rm
  go_wp2_with fail
  refine (V.at_any _ br _ _ _ hR).mono ?_
  rintro e w10 ⟨rfl, rfl⟩
  clear hR
  go_wp2_with fail
  refine (HI.out _ _ _ ry (hr.out.keepN gK)).mono ?_
  rintro e w11 ⟨rfl, k1⟩
  replace gK := keepN gK k1
  have rb := rd_n hb.out gK
  clear k1 ry
  go_wp2_with fail
  refine (V.on_any _ B b d rb HL.out).mono ?_
  rintro e v0 ⟨br2, rfl, hR, k1⟩
  have hbr2 : w.heap.size ≤ br2 := Nat.le_trans gK.size hR.1
  replace gK := keepN gK k1
  clear k1 rb
  go_wp2_with fail
  refine (HD1.out _ br2 _ hR).mono ?_
  rintro e v1 ⟨vx, qx, rfl, hOx, hR, hqx, k1⟩
  replace gK := keep_br gK k1 hbr2
  clear k1
  dsimp only [optL, optE] at hOx ⊢
  obtain rfl : qx = Q := hqx _ rfl
  rw [HM.out] at hOx
  obtain ⟨Ax, cx, rfl, rx⟩ := own_rdI hOx
  clear hOx hqx
  go_wp2_with fail
  refine (HX2.out _ _ _ rx).mono ?_
  rintro e v2 ⟨vv, rfl, hv, k1⟩
  obtain ⟨Av, cv, rfl, rv, _⟩ := own_rd hv
  replace gK := keepN gK k1
  replace hR := hR.keep k1 (fun _ _ => id)
  have rb := rd_n hb.out gK
  clear k1 rx hv
  go_wp2
  refine wp_region_sh ((0, false) :: (1, false) :: (2, false) :: (3, false) :: (4, false) :: (5, false) :: (6, false) :: (7, false) :: (8, false) :: (9, false) :: (10, false) :: (11, false) :: []) (fun w' => Keep NoB v2 w') (by kernel_rfl) (by kernel_rfl) (by rfl) (by kernel_rfl) (stable_keep v2) (Keep.refl NoB v2).drew ?_
  refine shM_step rfl rfl rfl (by rfl) (by rfl) ?_
  apply Exists.intro
  refine ⟨fun z K hK => ?_, ?_, ?_⟩
  · go_big_quiet_op
    exact hK _ rfl
  · kernel_rfl
  refine shM_step rfl rfl rfl (by rfl) (by rfl) ?_
  apply Exists.intro
  refine ⟨fun z K hK => ?_, ?_, ?_⟩
  · go_big_quiet_op
    exact hK _ rfl
  · kernel_rfl
  refine shM_step rfl rfl rfl (by rfl) (by rfl) ?_
  apply Exists.intro
  refine ⟨fun z K hK => ?_, ?_, ?_⟩
  · go_big_quiet_op
    exact hK _ rfl
  · kernel_rfl
  refine shM_step rfl rfl rfl (by rfl) (by rfl) ?_
  apply Exists.intro
  refine ⟨fun z K hK => ?_, ?_, ?_⟩
  · go_big_quiet_op
    exact hK _ rfl
  · kernel_rfl
  refine shM_step rfl rfl rfl (by rfl) (by rfl) ?_
  apply Exists.intro
  refine ⟨fun z K hK => ?_, ?_, ?_⟩
  · have cu_ : ∀ y : KW z.w, (convert 23 9 (.slice Av V2.length cv)).run Tryd.prog y.w = .ok (.string S2) y.w := fun y => by have := V.conv_rd (c := cv) (rd_n rv (keepN z.has y.keep)); rw [HS.out] at this; exact this
    go_big_quiet_op
    exact hK _ rfl
  · kernel_rfl
  refine shM_step rfl rfl rfl (by rfl) (by rfl) ?_
  apply Exists.intro
  refine ⟨fun z K hK => ?_, ?_, ?_⟩
  · go_big_quiet_op
    exact hK _ rfl
  · kernel_rfl
  refine shM_step rfl rfl rfl (by rfl) (by rfl) ?_
  apply Exists.intro
  refine ⟨fun z K hK => ?_, ?_, ?_⟩
  · go_big_quiet_op
    exact hK _ rfl
  · kernel_rfl
  refine shM_step rfl rfl rfl (by rfl) (by rfl) ?_
  apply Exists.intro
  refine ⟨fun z K hK => ?_, ?_, ?_⟩
  · go_big_quiet_op
    apply Exists.intro
    refine ⟨fun y => ?_, ?_⟩
    · go_at_call 21
      exact kept_of (at_gen hR (keepN z.has y.keep))
    · exact hK _ rfl
  · kernel_rfl
  refine shM_step rfl rfl rfl (by rfl) (by rfl) ?_
  apply Exists.intro
  refine ⟨fun z K hK => ?_, ?_, ?_⟩
  · go_big_quiet_op
    exact hK _ rfl
  · kernel_rfl
  refine shM_step rfl rfl rfl (by rfl) (by rfl) ?_
  apply Exists.intro
  refine ⟨fun z K hK => ?_, ?_, ?_⟩
  · have cb_ : ∀ (c : Nat) (y : KW z.w), (convert 23 9 (.slice B qx c)).run Tryd.prog y.w = .ok (.string S2) y.w := fun c y => by have := V.conv_rd (c := c) (rd_take (rd_n rb (keepN z.has y.keep)) qx); rw [HTL.out, HT.out, HS.out] at this; exact this
    go_big_quiet_op
    exact hK _ rfl
  · kernel_rfl
  refine shM_step rfl rfl rfl (by rfl) (by rfl) ?_
  apply Exists.intro
  refine ⟨fun z K hK => ?_, ?_, ?_⟩
  · go_big_quiet_op
    exact hK _ rfl
  · kernel_rfl
  refine shM_step rfl rfl rfl (by rfl) (by rfl) ?_
  apply Exists.intro
  refine ⟨fun z K hK => ?_, ?_, ?_⟩
  · go_big_quiet_op
    exact hK _ rfl
  · kernel_rfl
  refine shM_nil (fun z => ?_)
  have k5 := z.has
  replace gK := keepN gK k5
  generalize z.w = w12 at k5 gK ⊢
  clear k5 rv hR rb
  go_wp2_with fail
  refine (HRT.out _ (hL.out.keep gK)).mono ?_
  rintro e w13 ⟨vt, rfl, hOt, k1⟩
  replace gK := keepN gK k1
  clear k1
  dsimp only [rsL, rsE] at hOt ⊢
  obtain ⟨At, ct, rfl, rt⟩ := own_rdI hOt
  clear hOt
  clear rt
  simp only [List.length_nil]
  go_wp2
  go_ret
  exact ⟨rfl, gK⟩

set_option maxRecDepth 100000 in
set_option maxHeartbeats 8000000 in
theorem back_yny (A : Option Addr) (l : List Int) (na c : Nat) (B : Option Addr) (b : List UInt8) (d : Nat) (S : ByteArray) (s : List UInt8) (w : World) (hL : Hid (LetAt w)) (hr : Hid (Rd w A (ivs l))) (hn : Hid (l.length = na)) (hb : Hid (V.Rd w B b)) (_hc : b.length ≤ d) (hs : Hid (S.data.toList = s)) (h1 : na ≤ 100) (h2 : b.length ≤ 100) (h3 : S.size ≤ 100) (hok : Hid (okS l = true)) (hd : decS b 0 = none) (ys : List Int) (ht : rdS s = some ys) :
    Calls Tryd.prog 6 #[.slice A na c, .slice B b.length d, .string S] w fun e w' => e = .returned (.bool true) ∧ Keep NoB w w' := by
  have HL : Hid (b.length ≤ 140737488355328) := by show _ ≤ _; omega
  have HLE : Hid (b.length ≤ 100) := h2
  have hq1 : decide ((100 : Int) < (na : Int)) = false := by rw [decide_eq_false_iff_not]; omega
  have hq2 : decide ((100 : Int) < (b.length : Int)) = false := by rw [decide_eq_false_iff_not]; omega
  have hq3 : decide ((100 : Int) < (S.size : Int)) = false := by rw [decide_eq_false_iff_not]; omega
  have hm : na ≤ 9223372036854775807 := by omega
  clear h2
  have HX := Lib.hid (fun w hr => encodeS_any A l na c w hr hn hm)
  have HD1 := Lib.hid (fun w br O h => decodeS_any w br O b 0 h HL.out)
  have HRT := Lib.hid (fun w hL => readS_any S s w hL hs (by omega))
  rw [ht] at HRT
  rw [hd] at HD1
  rw [encS_ok hok.out, chkS_ok hok.out] at HX
  obtain ⟨t1, t2⟩ := sh_rdS ht
  have hyl := ((okS_iff ys).1 t1).1.2
  have HSH := Lib.hid (fun A c w hL hr => showS_any A ys ys.length c w hL hr rfl (by omega))
  rw [t2, str_of hs.out] at HSH
  have qT := list_self S
  clear t1 t2 hyl
  clear ht
  have hok2 := hok.out
  have HF := Lib.hid (fun w br O h hlen => decodeS_any w br O (bytesT l ++ b) 0 h hlen)
  rw [decS_front hok2 b] at HF
  have HI := Lib.hid (fun A1 c1 w h1 h2 => ints_any A1 A l l na na c1 c w h1 h2 hn hn hm hm true (by show _ = _; simp))
  have HSW := Lib.hid (fun w hL hr => showS_any A l na c w hL hr hn hm)
  have HRR := Lib.hid (fun w hL => readS_any (W.str (shS l)) (shS l) w hL rfl (by rw [size_of (s := shS l) (by simp)]; have := shS_len l; omega))
  rw [rdS_sh hok2] at HRR
  have hn64 : l.length ≤ 64 := by have := ((okS_iff l).1 hok2).1; omega
  have hul := bytesT_one hn64
  rw [hn.out] at hul
  have hz : sz na ≤ 100 := by unfold sz; omega
  have hzq : ((na : Int) + 3).tdiv 4 = ((sz na : Nat) : Int) := by unfold sz; rw [Int.tdiv_eq_ediv_of_nonneg (by omega)]; omega
  obtain ⟨z, hzz⟩ : ∃ z, sz na = z := ⟨_, rfl⟩
  rw [hzz] at hul hz hzq
  obtain ⟨U, hU⟩ : ∃ U, bytesT l = U := ⟨_, rfl⟩
  rw [hU] at HX HF hul
  obtain ⟨TS, hTS⟩ : ∃ TS, W.str (shS l) = TS := ⟨_, rfl⟩
  rw [hTS] at HSW HRR
  have qU : ((U.length : Int) != 1 + (z : Int)) = false := by rw [bne_eq_false_iff_eq, hul]; omega
  have qU2 : ((U.length : Int) != (U.length : Int)) = false := by simp
  have HUZ := Lib.hid hul
  have hu100 : U.length ≤ 101 := by omega
  clear hok2 hn64 hU hTS hzz hul
  clear hd
  go_enter Tryd.func6, Tryd.ntmps6
  go_wp2_with fail
  refine (alive_any _ hL.out).mono ?_
  rintro e w1 ⟨rfl, gK⟩
  go_wp2_with fail
  refine (HX.out _ (hr.out.keepN gK)).mono ?_
  rintro e w2 ⟨vu, rfl, hu, k1⟩
  replace gK := keepN gK k1
  clear k1
  obtain ⟨Au, cu, rfl, ru, _⟩ := own_rd hu
  have hm2 := made_own w2
  have ru2 := rd_n ru ((Keep.refl NoB w2).alloc (.cells #[] 5))
  go_wp2_with (first | (at_builtin; refine V.wpList_append_rd _ rfl (.tmp 48) (.tmp 49) rfl (.slice (some ⟨w2.heap.size, 0, none⟩) 0 0) [] U Au cu rfl hm2.1 rfl ru2 (by simp; omega) ?_; intro v1 w3 hown hg hat; have hap := own_app hm2 ((Keep.refl NoB w2).alloc _) hown hg hat; rw [List.nil_append] at hap; have rb3 := rd_n hb.out (keepN gK hap.2); clear hown hg hat) | (at_builtin; refine V.wpList_append_rd _ rfl (.tmp 50) (.tmp 51) rfl v1 U b B d rfl hap.1.1 rfl rb3 (by have := HLE.out; omega) ?_; intro v2 w4 hown hg hat; have hap2 := own_app hap.1 hap.2 hown hg hat; clear hown hg hat))
  obtain ⟨A2, c2, rfl, r2, _⟩ := own_rd hap2.1
  replace gK := keepN gK hap2.2
  clear hap hap2 hm2 ru2 rb3 hu ru
  have HUL : Hid ((U ++ b).length ≤ 140737488355328) := by show _ ≤ _; have := HLE.out; rw [List.length_append]; omega
  go_wp2_with fail
  refine (V.on_any _ A2 (U ++ b) c2 r2 HUL.out).mono ?_
  rintro e w5 ⟨br, rfl, hR, k1⟩
  have hs4 := gK.size
  have hbr : w4.heap.size ≤ br := hR.1
  replace gK := keepN gK k1
  clear k1 r2
  go_wp2_with fail
  refine (HF.out _ br _ hR HUL.out).mono ?_
  rintro e w6 ⟨vm, q, rfl, hOm, hR, hq, k1⟩
  obtain rfl : q = U.length := hq _ rfl
  dsimp only [optL, optE] at hOm ⊢
  rw [hn.out] at hOm
  obtain ⟨Am, cm, rfl, rm⟩ := own_rdI hOm
  replace gK := keep_br gK k1 (by omega)
  clear k1 hOm hq
  go_wp2_with fail
  refine (HSW.out _ (hL.out.keep gK) (hr.out.keepN gK)).mono ?_
  rintro e w7 ⟨rfl, k1⟩
  replace gK := keepN gK k1
  replace hR := hR.keep k1 (fun _ _ => id)
  replace rm := rm.keepN k1
  clear k1
  go_wp2_with fail
  refine (HRR.out _ (hL.out.keep gK)).mono ?_
  rintro e w8 ⟨vy, rfl, hOy, k1⟩
  dsimp only [rsL, rsE] at hOy ⊢
  rw [hn.out] at hOy
  obtain ⟨Ay, cy, rfl, ry⟩ := own_rdI hOy
  replace gK := keepN gK k1
  replace hR := hR.keep k1 (fun _ _ => id)
  replace rm := rm.keepN k1
  clear k1 hOy
  go_wp2_with fail
  refine (HI.out _ _ _ rm (hr.out.keepN gK)).mono ?_
  rintro e w9 ⟨rfl, k1⟩
  replace gK := keepN gK k1
  replace hR := hR.keep k1 (fun _ _ => id)
  replace ry := ry.keepN k1
  clear k1 rm
  go_wp2_with fail
  refine (V.at_any _ br _ _ _ hR).mono ?_
  rintro e w10 ⟨rfl, rfl⟩
  clear hR
  go_wp2_with fail
  refine (HI.out _ _ _ ry (hr.out.keepN gK)).mono ?_
  rintro e w11 ⟨rfl, k1⟩
  replace gK := keepN gK k1
  have rb := rd_n hb.out gK
  clear k1 ry
  go_wp2_with fail
  refine (V.on_any _ B b d rb HL.out).mono ?_
  rintro e v0 ⟨br2, rfl, hR, k1⟩
  have hbr2 : w.heap.size ≤ br2 := Nat.le_trans gK.size hR.1
  replace gK := keepN gK k1
  clear k1 rb
  go_wp2_with fail
  refine (HD1.out _ br2 _ hR).mono ?_
  rintro e v1 ⟨vx, qx, rfl, hOx, hR, hqx, k1⟩
  replace gK := keep_br gK k1 hbr2
  clear k1
  dsimp only [optL, optE] at hOx ⊢
  obtain ⟨Ax, cx, rfl, rx⟩ := own_rdI hOx
  clear hOx hqx hR rx
  simp only [List.length_nil]
  go_wp2_with fail
  refine (HRT.out _ (hL.out.keep gK)).mono ?_
  rintro e w13 ⟨vt, rfl, hOt, k1⟩
  replace gK := keepN gK k1
  clear k1
  dsimp only [rsL, rsE] at hOt ⊢
  obtain ⟨At, ct, rfl, rt⟩ := own_rdI hOt
  clear hOt
  go_wp2_with fail
  refine (HSH.out _ _ _ (hL.out.keep gK) rt).mono ?_
  rintro e w14 ⟨rfl, k1⟩
  replace gK := keepN gK k1
  clear k1
  go_wp2
  go_ret
  exact ⟨rfl, gK⟩

set_option maxRecDepth 100000 in
set_option maxHeartbeats 8000000 in
theorem back_ynn (A : Option Addr) (l : List Int) (na c : Nat) (B : Option Addr) (b : List UInt8) (d : Nat) (S : ByteArray) (s : List UInt8) (w : World) (hL : Hid (LetAt w)) (hr : Hid (Rd w A (ivs l))) (hn : Hid (l.length = na)) (hb : Hid (V.Rd w B b)) (_hc : b.length ≤ d) (hs : Hid (S.data.toList = s)) (h1 : na ≤ 100) (h2 : b.length ≤ 100) (h3 : S.size ≤ 100) (hok : Hid (okS l = true)) (hd : decS b 0 = none) (ht : rdS s = none) :
    Calls Tryd.prog 6 #[.slice A na c, .slice B b.length d, .string S] w fun e w' => e = .returned (.bool true) ∧ Keep NoB w w' := by
  have HL : Hid (b.length ≤ 140737488355328) := by show _ ≤ _; omega
  have HLE : Hid (b.length ≤ 100) := h2
  have hq1 : decide ((100 : Int) < (na : Int)) = false := by rw [decide_eq_false_iff_not]; omega
  have hq2 : decide ((100 : Int) < (b.length : Int)) = false := by rw [decide_eq_false_iff_not]; omega
  have hq3 : decide ((100 : Int) < (S.size : Int)) = false := by rw [decide_eq_false_iff_not]; omega
  have hm : na ≤ 9223372036854775807 := by omega
  clear h2
  have HX := Lib.hid (fun w hr => encodeS_any A l na c w hr hn hm)
  have HD1 := Lib.hid (fun w br O h => decodeS_any w br O b 0 h HL.out)
  have HRT := Lib.hid (fun w hL => readS_any S s w hL hs (by omega))
  rw [ht] at HRT
  rw [hd] at HD1
  rw [encS_ok hok.out, chkS_ok hok.out] at HX
  clear ht
  have hok2 := hok.out
  have HF := Lib.hid (fun w br O h hlen => decodeS_any w br O (bytesT l ++ b) 0 h hlen)
  rw [decS_front hok2 b] at HF
  have HI := Lib.hid (fun A1 c1 w h1 h2 => ints_any A1 A l l na na c1 c w h1 h2 hn hn hm hm true (by show _ = _; simp))
  have HSW := Lib.hid (fun w hL hr => showS_any A l na c w hL hr hn hm)
  have HRR := Lib.hid (fun w hL => readS_any (W.str (shS l)) (shS l) w hL rfl (by rw [size_of (s := shS l) (by simp)]; have := shS_len l; omega))
  rw [rdS_sh hok2] at HRR
  have hn64 : l.length ≤ 64 := by have := ((okS_iff l).1 hok2).1; omega
  have hul := bytesT_one hn64
  rw [hn.out] at hul
  have hz : sz na ≤ 100 := by unfold sz; omega
  have hzq : ((na : Int) + 3).tdiv 4 = ((sz na : Nat) : Int) := by unfold sz; rw [Int.tdiv_eq_ediv_of_nonneg (by omega)]; omega
  obtain ⟨z, hzz⟩ : ∃ z, sz na = z := ⟨_, rfl⟩
  rw [hzz] at hul hz hzq
  obtain ⟨U, hU⟩ : ∃ U, bytesT l = U := ⟨_, rfl⟩
  rw [hU] at HX HF hul
  obtain ⟨TS, hTS⟩ : ∃ TS, W.str (shS l) = TS := ⟨_, rfl⟩
  rw [hTS] at HSW HRR
  have qU : ((U.length : Int) != 1 + (z : Int)) = false := by rw [bne_eq_false_iff_eq, hul]; omega
  have qU2 : ((U.length : Int) != (U.length : Int)) = false := by simp
  have HUZ := Lib.hid hul
  have hu100 : U.length ≤ 101 := by omega
  clear hok2 hn64 hU hTS hzz hul
  clear hd
  go_enter Tryd.func6, Tryd.ntmps6
  go_wp2_with fail
  refine (alive_any _ hL.out).mono ?_
  rintro e w1 ⟨rfl, gK⟩
  go_wp2_with fail
  refine (HX.out _ (hr.out.keepN gK)).mono ?_
  rintro e w2 ⟨vu, rfl, hu, k1⟩
  replace gK := keepN gK k1
  clear k1
  obtain ⟨Au, cu, rfl, ru, _⟩ := own_rd hu
  have hm2 := made_own w2
  have ru2 := rd_n ru ((Keep.refl NoB w2).alloc (.cells #[] 5))
  go_wp2_with (first | (at_builtin; refine V.wpList_append_rd _ rfl (.tmp 48) (.tmp 49) rfl (.slice (some ⟨w2.heap.size, 0, none⟩) 0 0) [] U Au cu rfl hm2.1 rfl ru2 (by simp; omega) ?_; intro v1 w3 hown hg hat; have hap := own_app hm2 ((Keep.refl NoB w2).alloc _) hown hg hat; rw [List.nil_append] at hap; have rb3 := rd_n hb.out (keepN gK hap.2); clear hown hg hat) | (at_builtin; refine V.wpList_append_rd _ rfl (.tmp 50) (.tmp 51) rfl v1 U b B d rfl hap.1.1 rfl rb3 (by have := HLE.out; omega) ?_; intro v2 w4 hown hg hat; have hap2 := own_app hap.1 hap.2 hown hg hat; clear hown hg hat))
  obtain ⟨A2, c2, rfl, r2, _⟩ := own_rd hap2.1
  replace gK := keepN gK hap2.2
  clear hap hap2 hm2 ru2 rb3 hu ru
  have HUL : Hid ((U ++ b).length ≤ 140737488355328) := by show _ ≤ _; have := HLE.out; rw [List.length_append]; omega
  go_wp2_with fail
  refine (V.on_any _ A2 (U ++ b) c2 r2 HUL.out).mono ?_
  rintro e w5 ⟨br, rfl, hR, k1⟩
  have hs4 := gK.size
  have hbr : w4.heap.size ≤ br := hR.1
  replace gK := keepN gK k1
  clear k1 r2
  go_wp2_with fail
  refine (HF.out _ br _ hR HUL.out).mono ?_
  rintro e w6 ⟨vm, q, rfl, hOm, hR, hq, k1⟩
  obtain rfl : q = U.length := hq _ rfl
  dsimp only [optL, optE] at hOm ⊢
  rw [hn.out] at hOm
  obtain ⟨Am, cm, rfl, rm⟩ := own_rdI hOm
  replace gK := keep_br gK k1 (by omega)
  clear k1 hOm hq
  go_wp2_with fail
  refine (HSW.out _ (hL.out.keep gK) (hr.out.keepN gK)).mono ?_
  rintro e w7 ⟨rfl, k1⟩
  replace gK := keepN gK k1
  replace hR := hR.keep k1 (fun _ _ => id)
  replace rm := rm.keepN k1
  clear k1
  go_wp2_with fail
  refine (HRR.out _ (hL.out.keep gK)).mono ?_
  rintro e w8 ⟨vy, rfl, hOy, k1⟩
  dsimp only [rsL, rsE] at hOy ⊢
  rw [hn.out] at hOy
  obtain ⟨Ay, cy, rfl, ry⟩ := own_rdI hOy
  replace gK := keepN gK k1
  replace hR := hR.keep k1 (fun _ _ => id)
  replace rm := rm.keepN k1
  clear k1 hOy
  go_wp2_with fail
  refine (HI.out _ _ _ rm (hr.out.keepN gK)).mono ?_
  rintro e w9 ⟨rfl, k1⟩
  replace gK := keepN gK k1
  replace hR := hR.keep k1 (fun _ _ => id)
  replace ry := ry.keepN k1
  clear k1 rm
  go_wp2_with fail
  refine (V.at_any _ br _ _ _ hR).mono ?_
  rintro e w10 ⟨rfl, rfl⟩
  clear hR
  go_wp2_with fail
  refine (HI.out _ _ _ ry (hr.out.keepN gK)).mono ?_
  rintro e w11 ⟨rfl, k1⟩
  replace gK := keepN gK k1
  have rb := rd_n hb.out gK
  clear k1 ry
  go_wp2_with fail
  refine (V.on_any _ B b d rb HL.out).mono ?_
  rintro e v0 ⟨br2, rfl, hR, k1⟩
  have hbr2 : w.heap.size ≤ br2 := Nat.le_trans gK.size hR.1
  replace gK := keepN gK k1
  clear k1 rb
  go_wp2_with fail
  refine (HD1.out _ br2 _ hR).mono ?_
  rintro e v1 ⟨vx, qx, rfl, hOx, hR, hqx, k1⟩
  replace gK := keep_br gK k1 hbr2
  clear k1
  dsimp only [optL, optE] at hOx ⊢
  obtain ⟨Ax, cx, rfl, rx⟩ := own_rdI hOx
  clear hOx hqx hR rx
  simp only [List.length_nil]
  go_wp2_with fail
  refine (HRT.out _ (hL.out.keep gK)).mono ?_
  rintro e w13 ⟨vt, rfl, hOt, k1⟩
  replace gK := keepN gK k1
  clear k1
  dsimp only [rsL, rsE] at hOt ⊢
  obtain ⟨At, ct, rfl, rt⟩ := own_rdI hOt
  clear hOt
  clear rt
  simp only [List.length_nil]
  go_wp2
  go_ret
  exact ⟨rfl, gK⟩

set_option maxRecDepth 100000 in
set_option maxHeartbeats 8000000 in
theorem back_nyy (A : Option Addr) (l : List Int) (na c : Nat) (B : Option Addr) (b : List UInt8) (d : Nat) (S : ByteArray) (s : List UInt8) (w : World) (hL : Hid (LetAt w)) (hr : Hid (Rd w A (ivs l))) (hn : Hid (l.length = na)) (hb : Hid (V.Rd w B b)) (hc : b.length ≤ d) (hs : Hid (S.data.toList = s)) (h1 : na ≤ 100) (h2 : b.length ≤ 100) (h3 : S.size ≤ 100) (hok : Hid (okS l = false)) (xs : List Int) (Q : Nat) (hd : decS b 0 = some (xs, Q)) (ys : List Int) (ht : rdS s = some ys) :
    Calls Tryd.prog 6 #[.slice A na c, .slice B b.length d, .string S] w fun e w' => e = .returned (.bool true) ∧ Keep NoB w w' := by
  have HL : Hid (b.length ≤ 140737488355328) := by show _ ≤ _; omega
  have HLE : Hid (b.length ≤ 100) := h2
  have hq1 : decide ((100 : Int) < (na : Int)) = false := by rw [decide_eq_false_iff_not]; omega
  have hq2 : decide ((100 : Int) < (b.length : Int)) = false := by rw [decide_eq_false_iff_not]; omega
  have hq3 : decide ((100 : Int) < (S.size : Int)) = false := by rw [decide_eq_false_iff_not]; omega
  have hm : na ≤ 9223372036854775807 := by omega
  clear h2
  have HX := Lib.hid (fun w hr => encodeS_any A l na c w hr hn hm)
  have HD1 := Lib.hid (fun w br O h => decodeS_any w br O b 0 h HL.out)
  have HRT := Lib.hid (fun w hL => readS_any S s w hL hs (by omega))
  rw [ht] at HRT
  rw [hd] at HD1
  rw [encS_no hok.out, chkS_no hok.out] at HX
  obtain ⟨t1, t2⟩ := sh_rdS ht
  have hyl := ((okS_iff ys).1 t1).1.2
  have HSH := Lib.hid (fun A c w hL hr => showS_any A ys ys.length c w hL hr rfl (by omega))
  rw [t2, str_of hs.out] at HSH
  have qT := list_self S
  clear t1 t2 hyl
  clear ht
  obtain ⟨o1, o2, o3⟩ := decS_ok hd
  obtain ⟨mx, hmx⟩ : ∃ mx, xs.length = mx := ⟨_, rfl⟩
  have HM := Lib.hid hmx
  have hxl := ((okS_iff xs).1 o1).1.2
  rw [hmx] at hxl
  have HX2 := Lib.hid (fun A c w hr => encodeS_any A xs mx c w hr hmx (by omega))
  rw [encS_ok o1, chkS_ok o1] at HX2
  have HT : Hid (b.take Q = bytesT xs) := by
    show _ = _
    rw [List.drop_zero] at o2
    rw [Nat.zero_add] at o3
    rw [o3]
    conv => lhs; rw [o2]
    rw [List.take_left]
  have hpl : Q ≤ b.length := by
    have h1 := congrArg List.length o2
    simp at h1
    omega
  have HTL := Lib.hid (show (b.take Q).length = Q by simp; omega)
  have hpd : Q ≤ d := by omega
  obtain ⟨V2, hV2⟩ : ∃ V2, bytesT xs = V2 := ⟨_, rfl⟩
  rw [hV2] at HX2 HT
  obtain ⟨S2, hS2⟩ : ∃ S2, V.str V2 = S2 := ⟨_, rfl⟩
  have HS := Lib.hid hS2
  have qS := list_self S2
  clear hd o1 o2 o3 hmx hxl hV2 hS2
  go_enter Tryd.func6, Tryd.ntmps6
  go_wp2_with fail
  refine (alive_any _ hL.out).mono ?_
  rintro e w1 ⟨rfl, gK⟩
  go_wp2_with fail
  refine (HX.out _ (hr.out.keepN gK)).mono ?_
  rintro e w2 ⟨vu, rfl, hu, k1⟩
  replace gK := keepN gK k1
  clear k1
  have rb := rd_n hb.out gK
  clear hu
  go_wp2_with fail
  refine (V.on_any _ B b d rb HL.out).mono ?_
  rintro e v0 ⟨br2, rfl, hR, k1⟩
  have hbr2 : w.heap.size ≤ br2 := Nat.le_trans gK.size hR.1
  replace gK := keepN gK k1
  clear k1 rb
  go_wp2_with fail
  refine (HD1.out _ br2 _ hR).mono ?_
  rintro e v1 ⟨vx, qx, rfl, hOx, hR, hqx, k1⟩
  replace gK := keep_br gK k1 hbr2
  clear k1
  dsimp only [optL, optE] at hOx ⊢
  obtain rfl : qx = Q := hqx _ rfl
  rw [HM.out] at hOx
  obtain ⟨Ax, cx, rfl, rx⟩ := own_rdI hOx
  clear hOx hqx
  go_wp2_with fail
  refine (HX2.out _ _ _ rx).mono ?_
  rintro e v2 ⟨vv, rfl, hv, k1⟩
  obtain ⟨Av, cv, rfl, rv, _⟩ := own_rd hv
  replace gK := keepN gK k1
  replace hR := hR.keep k1 (fun _ _ => id)
  have rb := rd_n hb.out gK
  clear k1 rx hv
  go_wp2
  refine wp_region_sh ((0, false) :: (1, false) :: (2, false) :: (3, false) :: (4, false) :: (5, false) :: (6, false) :: (7, false) :: (8, false) :: (9, false) :: (10, false) :: (11, false) :: []) (fun w' => Keep NoB v2 w') (by kernel_rfl) (by kernel_rfl) (by rfl) (by kernel_rfl) (stable_keep v2) (Keep.refl NoB v2).drew ?_
  refine shM_step rfl rfl rfl (by rfl) (by rfl) ?_
  apply Exists.intro
  refine ⟨fun z K hK => ?_, ?_, ?_⟩
  · go_big_quiet_op
    exact hK _ rfl
  · kernel_rfl
  refine shM_step rfl rfl rfl (by rfl) (by rfl) ?_
  apply Exists.intro
  refine ⟨fun z K hK => ?_, ?_, ?_⟩
  · go_big_quiet_op
    exact hK _ rfl
  · kernel_rfl
  refine shM_step rfl rfl rfl (by rfl) (by rfl) ?_
  apply Exists.intro
  refine ⟨fun z K hK => ?_, ?_, ?_⟩
  · go_big_quiet_op
    exact hK _ rfl
  · kernel_rfl
  refine shM_step rfl rfl rfl (by rfl) (by rfl) ?_
  apply Exists.intro
  refine ⟨fun z K hK => ?_, ?_, ?_⟩
  · go_big_quiet_op
    exact hK _ rfl
  · kernel_rfl
  refine shM_step rfl rfl rfl (by rfl) (by rfl) ?_
  apply Exists.intro
  refine ⟨fun z K hK => ?_, ?_, ?_⟩
  · have cu_ : ∀ y : KW z.w, (convert 23 9 (.slice Av V2.length cv)).run Tryd.prog y.w = .ok (.string S2) y.w := fun y => by have := V.conv_rd (c := cv) (rd_n rv (keepN z.has y.keep)); rw [HS.out] at this; exact this
    go_big_quiet_op
    exact hK _ rfl
  · kernel_rfl
  refine shM_step rfl rfl rfl (by rfl) (by rfl) ?_
  apply Exists.intro
  refine ⟨fun z K hK => ?_, ?_, ?_⟩
  · go_big_quiet_op
    exact hK _ rfl
  · kernel_rfl
  refine shM_step rfl rfl rfl (by rfl) (by rfl) ?_
  apply Exists.intro
  refine ⟨fun z K hK => ?_, ?_, ?_⟩
  · go_big_quiet_op
    exact hK _ rfl
  · kernel_rfl
  refine shM_step rfl rfl rfl (by rfl) (by rfl) ?_
  apply Exists.intro
  refine ⟨fun z K hK => ?_, ?_, ?_⟩
  · go_big_quiet_op
    apply Exists.intro
    refine ⟨fun y => ?_, ?_⟩
    · go_at_call 21
      exact kept_of (at_gen hR (keepN z.has y.keep))
    · exact hK _ rfl
  · kernel_rfl
  refine shM_step rfl rfl rfl (by rfl) (by rfl) ?_
  apply Exists.intro
  refine ⟨fun z K hK => ?_, ?_, ?_⟩
  · go_big_quiet_op
    exact hK _ rfl
  · kernel_rfl
  refine shM_step rfl rfl rfl (by rfl) (by rfl) ?_
  apply Exists.intro
  refine ⟨fun z K hK => ?_, ?_, ?_⟩
  · have cb_ : ∀ (c : Nat) (y : KW z.w), (convert 23 9 (.slice B qx c)).run Tryd.prog y.w = .ok (.string S2) y.w := fun c y => by have := V.conv_rd (c := c) (rd_take (rd_n rb (keepN z.has y.keep)) qx); rw [HTL.out, HT.out, HS.out] at this; exact this
    go_big_quiet_op
    exact hK _ rfl
  · kernel_rfl
  refine shM_step rfl rfl rfl (by rfl) (by rfl) ?_
  apply Exists.intro
  refine ⟨fun z K hK => ?_, ?_, ?_⟩
  · go_big_quiet_op
    exact hK _ rfl
  · kernel_rfl
  refine shM_step rfl rfl rfl (by rfl) (by rfl) ?_
  apply Exists.intro
  refine ⟨fun z K hK => ?_, ?_, ?_⟩
  · go_big_quiet_op
    exact hK _ rfl
  · kernel_rfl
  refine shM_nil (fun z => ?_)
  have k5 := z.has
  replace gK := keepN gK k5
  generalize z.w = w12 at k5 gK ⊢
  clear k5 rv hR rb
  go_wp2_with fail
  refine (HRT.out _ (hL.out.keep gK)).mono ?_
  rintro e w13 ⟨vt, rfl, hOt, k1⟩
  replace gK := keepN gK k1
  clear k1
  dsimp only [rsL, rsE] at hOt ⊢
  obtain ⟨At, ct, rfl, rt⟩ := own_rdI hOt
  clear hOt
  go_wp2_with fail
  refine (HSH.out _ _ _ (hL.out.keep gK) rt).mono ?_
  rintro e w14 ⟨rfl, k1⟩
  replace gK := keepN gK k1
  clear k1
  go_wp2
  go_ret
  exact ⟨rfl, gK⟩

set_option maxRecDepth 100000 in
set_option maxHeartbeats 8000000 in
theorem back_nyn (A : Option Addr) (l : List Int) (na c : Nat) (B : Option Addr) (b : List UInt8) (d : Nat) (S : ByteArray) (s : List UInt8) (w : World) (hL : Hid (LetAt w)) (hr : Hid (Rd w A (ivs l))) (hn : Hid (l.length = na)) (hb : Hid (V.Rd w B b)) (hc : b.length ≤ d) (hs : Hid (S.data.toList = s)) (h1 : na ≤ 100) (h2 : b.length ≤ 100) (h3 : S.size ≤ 100) (hok : Hid (okS l = false)) (xs : List Int) (Q : Nat) (hd : decS b 0 = some (xs, Q)) (ht : rdS s = none) :
    Calls Tryd.prog 6 #[.slice A na c, .slice B b.length d, .string S] w fun e w' => e = .returned (.bool true) ∧ Keep NoB w w' := by
  have HL : Hid (b.length ≤ 140737488355328) := by show _ ≤ _; omega
  have HLE : Hid (b.length ≤ 100) := h2
  have hq1 : decide ((100 : Int) < (na : Int)) = false := by rw [decide_eq_false_iff_not]; omega
  have hq2 : decide ((100 : Int) < (b.length : Int)) = false := by rw [decide_eq_false_iff_not]; omega
  have hq3 : decide ((100 : Int) < (S.size : Int)) = false := by rw [decide_eq_false_iff_not]; omega
  have hm : na ≤ 9223372036854775807 := by omega
  clear h2
  have HX := Lib.hid (fun w hr => encodeS_any A l na c w hr hn hm)
  have HD1 := Lib.hid (fun w br O h => decodeS_any w br O b 0 h HL.out)
  have HRT := Lib.hid (fun w hL => readS_any S s w hL hs (by omega))
  rw [ht] at HRT
  rw [hd] at HD1
  rw [encS_no hok.out, chkS_no hok.out] at HX
  clear ht
  obtain ⟨o1, o2, o3⟩ := decS_ok hd
  obtain ⟨mx, hmx⟩ : ∃ mx, xs.length = mx := ⟨_, rfl⟩
  have HM := Lib.hid hmx
  have hxl := ((okS_iff xs).1 o1).1.2
  rw [hmx] at hxl
  have HX2 := Lib.hid (fun A c w hr => encodeS_any A xs mx c w hr hmx (by omega))
  rw [encS_ok o1, chkS_ok o1] at HX2
  have HT : Hid (b.take Q = bytesT xs) := by
    show _ = _
    rw [List.drop_zero] at o2
    rw [Nat.zero_add] at o3
    rw [o3]
    conv => lhs; rw [o2]
    rw [List.take_left]
  have hpl : Q ≤ b.length := by
    have h1 := congrArg List.length o2
    simp at h1
    omega
  have HTL := Lib.hid (show (b.take Q).length = Q by simp; omega)
  have hpd : Q ≤ d := by omega
  obtain ⟨V2, hV2⟩ : ∃ V2, bytesT xs = V2 := ⟨_, rfl⟩
  rw [hV2] at HX2 HT
  obtain ⟨S2, hS2⟩ : ∃ S2, V.str V2 = S2 := ⟨_, rfl⟩
  have HS := Lib.hid hS2
  have qS := list_self S2
  clear hd o1 o2 o3 hmx hxl hV2 hS2
  go_enter Tryd.func6, Tryd.ntmps6
  go_wp2_with fail
  refine (alive_any _ hL.out).mono ?_
  rintro e w1 ⟨rfl, gK⟩
  go_wp2_with fail
  refine (HX.out _ (hr.out.keepN gK)).mono ?_
  rintro e w2 ⟨vu, rfl, hu, k1⟩
  replace gK := keepN gK k1
  clear k1
  have rb := rd_n hb.out gK
  clear hu
  go_wp2_with fail
  refine (V.on_any _ B b d rb HL.out).mono ?_
  rintro e v0 ⟨br2, rfl, hR, k1⟩
  have hbr2 : w.heap.size ≤ br2 := Nat.le_trans gK.size hR.1
  replace gK := keepN gK k1
  clear k1 rb
  go_wp2_with fail
  refine (HD1.out _ br2 _ hR).mono ?_
  rintro e v1 ⟨vx, qx, rfl, hOx, hR, hqx, k1⟩
  replace gK := keep_br gK k1 hbr2
  clear k1
  dsimp only [optL, optE] at hOx ⊢
  obtain rfl : qx = Q := hqx _ rfl
  rw [HM.out] at hOx
  obtain ⟨Ax, cx, rfl, rx⟩ := own_rdI hOx
  clear hOx hqx
  go_wp2_with fail
  refine (HX2.out _ _ _ rx).mono ?_
  rintro e v2 ⟨vv, rfl, hv, k1⟩
  obtain ⟨Av, cv, rfl, rv, _⟩ := own_rd hv
  replace gK := keepN gK k1
  replace hR := hR.keep k1 (fun _ _ => id)
  have rb := rd_n hb.out gK
  clear k1 rx hv
  go_wp2
  refine wp_region_sh ((0, false) :: (1, false) :: (2, false) :: (3, false) :: (4, false) :: (5, false) :: (6, false) :: (7, false) :: (8, false) :: (9, false) :: (10, false) :: (11, false) :: []) (fun w' => Keep NoB v2 w') (by kernel_rfl) (by kernel_rfl) (by rfl) (by kernel_rfl) (stable_keep v2) (Keep.refl NoB v2).drew ?_
  refine shM_step rfl rfl rfl (by rfl) (by rfl) ?_
  apply Exists.intro
  refine ⟨fun z K hK => ?_, ?_, ?_⟩
  · go_big_quiet_op
    exact hK _ rfl
  · kernel_rfl
  refine shM_step rfl rfl rfl (by rfl) (by rfl) ?_
  apply Exists.intro
  refine ⟨fun z K hK => ?_, ?_, ?_⟩
  · go_big_quiet_op
    exact hK _ rfl
  · kernel_rfl
  refine shM_step rfl rfl rfl (by rfl) (by rfl) ?_
  apply Exists.intro
  refine ⟨fun z K hK => ?_, ?_, ?_⟩
  · go_big_quiet_op
    exact hK _ rfl
  · kernel_rfl
  refine shM_step rfl rfl rfl (by rfl) (by rfl) ?_
  apply Exists.intro
  refine ⟨fun z K hK => ?_, ?_, ?_⟩
  · go_big_quiet_op
    exact hK _ rfl
  · kernel_rfl
  refine shM_step rfl rfl rfl (by rfl) (by rfl) ?_
  apply Exists.intro
  refine ⟨fun z K hK => ?_, ?_, ?_⟩
  · have cu_ : ∀ y : KW z.w, (convert 23 9 (.slice Av V2.length cv)).run Tryd.prog y.w = .ok (.string S2) y.w := fun y => by have := V.conv_rd (c := cv) (rd_n rv (keepN z.has y.keep)); rw [HS.out] at this; exact this
    go_big_quiet_op
    exact hK _ rfl
  · kernel_rfl
  refine shM_step rfl rfl rfl (by rfl) (by rfl) ?_
  apply Exists.intro
  refine ⟨fun z K hK => ?_, ?_, ?_⟩
  · go_big_quiet_op
    exact hK _ rfl
  · kernel_rfl
  refine shM_step rfl rfl rfl (by rfl) (by rfl) ?_
  apply Exists.intro
  refine ⟨fun z K hK => ?_, ?_, ?_⟩
  · go_big_quiet_op
    exact hK _ rfl
  · kernel_rfl
  refine shM_step rfl rfl rfl (by rfl) (by rfl) ?_
  apply Exists.intro
  refine ⟨fun z K hK => ?_, ?_, ?_⟩
  · go_big_quiet_op
    apply Exists.intro
    refine ⟨fun y => ?_, ?_⟩
    · go_at_call 21
      exact kept_of (at_gen hR (keepN z.has y.keep))
    · exact hK _ rfl
  · kernel_rfl
  refine shM_step rfl rfl rfl (by rfl) (by rfl) ?_
  apply Exists.intro
  refine ⟨fun z K hK => ?_, ?_, ?_⟩
  · go_big_quiet_op
    exact hK _ rfl
  · kernel_rfl
  refine shM_step rfl rfl rfl (by rfl) (by rfl) ?_
  apply Exists.intro
  refine ⟨fun z K hK => ?_, ?_, ?_⟩
  · have cb_ : ∀ (c : Nat) (y : KW z.w), (convert 23 9 (.slice B qx c)).run Tryd.prog y.w = .ok (.string S2) y.w := fun c y => by have := V.conv_rd (c := c) (rd_take (rd_n rb (keepN z.has y.keep)) qx); rw [HTL.out, HT.out, HS.out] at this; exact this
    go_big_quiet_op
    exact hK _ rfl
  · kernel_rfl
  refine shM_step rfl rfl rfl (by rfl) (by rfl) ?_
  apply Exists.intro
  refine ⟨fun z K hK => ?_, ?_, ?_⟩
  · go_big_quiet_op
    exact hK _ rfl
  · kernel_rfl
  refine shM_step rfl rfl rfl (by rfl) (by rfl) ?_
  apply Exists.intro
  refine ⟨fun z K hK => ?_, ?_, ?_⟩
  · go_big_quiet_op
    exact hK _ rfl
  · kernel_rfl
  refine shM_nil (fun z => ?_)
  have k5 := z.has
  replace gK := keepN gK k5
  generalize z.w = w12 at k5 gK ⊢
  clear k5 rv hR rb
  go_wp2_with fail
  refine (HRT.out _ (hL.out.keep gK)).mono ?_
  rintro e w13 ⟨vt, rfl, hOt, k1⟩
  replace gK := keepN gK k1
  clear k1
  dsimp only [rsL, rsE] at hOt ⊢
  obtain ⟨At, ct, rfl, rt⟩ := own_rdI hOt
  clear hOt
  clear rt
  simp only [List.length_nil]
  go_wp2
  go_ret
  exact ⟨rfl, gK⟩

set_option maxRecDepth 100000 in
set_option maxHeartbeats 8000000 in
theorem back_nny (A : Option Addr) (l : List Int) (na c : Nat) (B : Option Addr) (b : List UInt8) (d : Nat) (S : ByteArray) (s : List UInt8) (w : World) (hL : Hid (LetAt w)) (hr : Hid (Rd w A (ivs l))) (hn : Hid (l.length = na)) (hb : Hid (V.Rd w B b)) (_hc : b.length ≤ d) (hs : Hid (S.data.toList = s)) (h1 : na ≤ 100) (h2 : b.length ≤ 100) (h3 : S.size ≤ 100) (hok : Hid (okS l = false)) (hd : decS b 0 = none) (ys : List Int) (ht : rdS s = some ys) :
    Calls Tryd.prog 6 #[.slice A na c, .slice B b.length d, .string S] w fun e w' => e = .returned (.bool true) ∧ Keep NoB w w' := by
  have HL : Hid (b.length ≤ 140737488355328) := by show _ ≤ _; omega
  have HLE : Hid (b.length ≤ 100) := h2
  have hq1 : decide ((100 : Int) < (na : Int)) = false := by rw [decide_eq_false_iff_not]; omega
  have hq2 : decide ((100 : Int) < (b.length : Int)) = false := by rw [decide_eq_false_iff_not]; omega
  have hq3 : decide ((100 : Int) < (S.size : Int)) = false := by rw [decide_eq_false_iff_not]; omega
  have hm : na ≤ 9223372036854775807 := by omega
  clear h2
  have HX := Lib.hid (fun w hr => encodeS_any A l na c w hr hn hm)
  have HD1 := Lib.hid (fun w br O h => decodeS_any w br O b 0 h HL.out)
  have HRT := Lib.hid (fun w hL => readS_any S s w hL hs (by omega))
  rw [ht] at HRT
  rw [hd] at HD1
  rw [encS_no hok.out, chkS_no hok.out] at HX
  obtain ⟨t1, t2⟩ := sh_rdS ht
  have hyl := ((okS_iff ys).1 t1).1.2
  have HSH := Lib.hid (fun A c w hL hr => showS_any A ys ys.length c w hL hr rfl (by omega))
  rw [t2, str_of hs.out] at HSH
  have qT := list_self S
  clear t1 t2 hyl
  clear ht
  clear hd
  go_enter Tryd.func6, Tryd.ntmps6
  go_wp2_with fail
  refine (alive_any _ hL.out).mono ?_
  rintro e w1 ⟨rfl, gK⟩
  go_wp2_with fail
  refine (HX.out _ (hr.out.keepN gK)).mono ?_
  rintro e w2 ⟨vu, rfl, hu, k1⟩
  replace gK := keepN gK k1
  clear k1
  have rb := rd_n hb.out gK
  clear hu
  go_wp2_with fail
  refine (V.on_any _ B b d rb HL.out).mono ?_
  rintro e v0 ⟨br2, rfl, hR, k1⟩
  have hbr2 : w.heap.size ≤ br2 := Nat.le_trans gK.size hR.1
  replace gK := keepN gK k1
  clear k1 rb
  go_wp2_with fail
  refine (HD1.out _ br2 _ hR).mono ?_
  rintro e v1 ⟨vx, qx, rfl, hOx, hR, hqx, k1⟩
  replace gK := keep_br gK k1 hbr2
  clear k1
  dsimp only [optL, optE] at hOx ⊢
  obtain ⟨Ax, cx, rfl, rx⟩ := own_rdI hOx
  clear hOx hqx hR rx
  simp only [List.length_nil]
  go_wp2_with fail
  refine (HRT.out _ (hL.out.keep gK)).mono ?_
  rintro e w13 ⟨vt, rfl, hOt, k1⟩
  replace gK := keepN gK k1
  clear k1
  dsimp only [rsL, rsE] at hOt ⊢
  obtain ⟨At, ct, rfl, rt⟩ := own_rdI hOt
  clear hOt
  go_wp2_with fail
  refine (HSH.out _ _ _ (hL.out.keep gK) rt).mono ?_
  rintro e w14 ⟨rfl, k1⟩
  replace gK := keepN gK k1
  clear k1
  go_wp2
  go_ret
  exact ⟨rfl, gK⟩

set_option maxRecDepth 100000 in
set_option maxHeartbeats 8000000 in
theorem back_nnn (A : Option Addr) (l : List Int) (na c : Nat) (B : Option Addr) (b : List UInt8) (d : Nat) (S : ByteArray) (s : List UInt8) (w : World) (hL : Hid (LetAt w)) (hr : Hid (Rd w A (ivs l))) (hn : Hid (l.length = na)) (hb : Hid (V.Rd w B b)) (_hc : b.length ≤ d) (hs : Hid (S.data.toList = s)) (h1 : na ≤ 100) (h2 : b.length ≤ 100) (h3 : S.size ≤ 100) (hok : Hid (okS l = false)) (hd : decS b 0 = none) (ht : rdS s = none) :
    Calls Tryd.prog 6 #[.slice A na c, .slice B b.length d, .string S] w fun e w' => e = .returned (.bool true) ∧ Keep NoB w w' := by
  have HL : Hid (b.length ≤ 140737488355328) := by show _ ≤ _; omega
  have HLE : Hid (b.length ≤ 100) := h2
  have hq1 : decide ((100 : Int) < (na : Int)) = false := by rw [decide_eq_false_iff_not]; omega
  have hq2 : decide ((100 : Int) < (b.length : Int)) = false := by rw [decide_eq_false_iff_not]; omega
  have hq3 : decide ((100 : Int) < (S.size : Int)) = false := by rw [decide_eq_false_iff_not]; omega
  have hm : na ≤ 9223372036854775807 := by omega
  clear h2
  have HX := Lib.hid (fun w hr => encodeS_any A l na c w hr hn hm)
  have HD1 := Lib.hid (fun w br O h => decodeS_any w br O b 0 h HL.out)
  have HRT := Lib.hid (fun w hL => readS_any S s w hL hs (by omega))
  rw [ht] at HRT
  rw [hd] at HD1
  rw [encS_no hok.out, chkS_no hok.out] at HX
  clear ht
  clear hd
  go_enter Tryd.func6, Tryd.ntmps6
  go_wp2_with fail
  refine (alive_any _ hL.out).mono ?_
  rintro e w1 ⟨rfl, gK⟩
  go_wp2_with fail
  refine (HX.out _ (hr.out.keepN gK)).mono ?_
  rintro e w2 ⟨vu, rfl, hu, k1⟩
  replace gK := keepN gK k1
  clear k1
  have rb := rd_n hb.out gK
  clear hu
  go_wp2_with fail
  refine (V.on_any _ B b d rb HL.out).mono ?_
  rintro e v0 ⟨br2, rfl, hR, k1⟩
  have hbr2 : w.heap.size ≤ br2 := Nat.le_trans gK.size hR.1
  replace gK := keepN gK k1
  clear k1 rb
  go_wp2_with fail
  refine (HD1.out _ br2 _ hR).mono ?_
  rintro e v1 ⟨vx, qx, rfl, hOx, hR, hqx, k1⟩
  replace gK := keep_br gK k1 hbr2
  clear k1
  dsimp only [optL, optE] at hOx ⊢
  obtain ⟨Ax, cx, rfl, rx⟩ := own_rdI hOx
  clear hOx hqx hR rx
  simp only [List.length_nil]
  go_wp2_with fail
  refine (HRT.out _ (hL.out.keep gK)).mono ?_
  rintro e w13 ⟨vt, rfl, hOt, k1⟩
  replace gK := keepN gK k1
  clear k1
  dsimp only [rsL, rsE] at hOt ⊢
  obtain ⟨At, ct, rfl, rt⟩ := own_rdI hOt
  clear hOt
  clear rt
  simp only [List.length_nil]
  go_wp2
  go_ret
  exact ⟨rfl, gK⟩

theorem back_walk (A : Option Addr) (l : List Int) (na c : Nat) (B : Option Addr) (b : List UInt8) (d : Nat) (S : ByteArray) (w : World) (hL : LetAt w) (hr : Rd w A (ivs l)) (hn : l.length = na) (hb : V.Rd w B b) (hc : b.length ≤ d) :
    Calls Tryd.prog 6 #[.slice A na c, .slice B b.length d, .string S] w fun e w' => e = .returned (.bool true) ∧ Keep NoB w w' := by
  by_cases h : na ≤ 100 ∧ b.length ≤ 100 ∧ S.size ≤ 100
  · obtain ⟨h1, h2, h3⟩ := h
    cases ho : okS l <;> cases hd : decS b 0 <;> cases ht : rdS S.data.toList
    · exact back_nnn A l na c B b d S _ w hL hr hn hb hc rfl h1 h2 h3 ho hd ht
    · exact back_nny A l na c B b d S _ w hL hr hn hb hc rfl h1 h2 h3 ho hd _ ht
    · exact back_nyn A l na c B b d S _ w hL hr hn hb hc rfl h1 h2 h3 ho _ _ hd ht
    · exact back_nyy A l na c B b d S _ w hL hr hn hb hc rfl h1 h2 h3 ho _ _ hd _ ht
    · exact back_ynn A l na c B b d S _ w hL hr hn hb hc rfl h1 h2 h3 ho hd ht
    · exact back_yny A l na c B b d S _ w hL hr hn hb hc rfl h1 h2 h3 ho hd _ ht
    · exact back_yyn A l na c B b d S _ w hL hr hn hb hc rfl h1 h2 h3 ho _ _ hd ht
    · exact back_yyy A l na c B b d S _ w hL hr hn hb hc rfl h1 h2 h3 ho _ _ hd _ ht
  · exact back_big A na c B b.length d S w hL h

end Go.Proofs.YtieejecodfeodaaDoor.S
