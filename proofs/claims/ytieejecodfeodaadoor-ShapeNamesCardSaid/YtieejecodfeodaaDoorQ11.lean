/-
  ShapeForms' walk: whether a shape may be, its bytes, text and any cell, the shape of any bytes, and of any text, or the error, are the document's; all stay. Conditions: the letters stand; list and bytes lie in memory.
  What the document's ReadSignature answers. Conditions: the text is no longer than an int.
-/
import Derived.Test.YtieejecodfeodaaDoorQ9
import Derived.Test.YtieejecodfeodaaDoorQ7
namespace Go.Proofs.YtieejecodfeodaaDoor.S
open Go.RowKit W

theorem ref_place {w : World} {br p : Nat} {O : Nat → Prop} {l : List UInt8} (h : V.RefAt w br O l p) : w.cell? ⟨br, 1, none⟩ = some (.int .i64 (p : Int)) := by
  obtain ⟨A, c, hb, _⟩ := h.cells
  exact hb.cell 1
theorem made_int (w : World) : (w.alloc (.cells #[] 3)).ownsRow 0 3 1 (.slice (some ⟨w.heap.size, 0, none⟩) 0 0) 0 [] ∧ ∀ g, (Value.slice (some ⟨w.heap.size, 0, none⟩) 0 0).ownBlock = some g → Fresh w g :=
  ⟨World.ownsRow_made (e := 3) (size := 1) (base := 0) w #[] 0 (Nat.zero_le _) (Nat.zero_le _) rfl, fun g e => by simp [Value.ownBlock] at e; subst e; exact Nat.le_refl _⟩
theorem decS_len {l : List UInt8} {p : Nat} : (optL (decS l p)).length ≤ 16 := by
  cases h : decS l p with
  | none => exact Nat.zero_le _
  | some x => exact ((okS_iff x.1).1 (decS_ok (x := x.1) (q := x.2) h).1).1.2
theorem rdS_len {s : List UInt8} : (rsL (rdS s)).length ≤ 16 := by
  cases h : rdS s with
  | none => exact Nat.zero_le _
  | some x => exact ((okS_iff x).1 (sh_rdS h).1).1.2

set_option maxRecDepth 100000 in
set_option maxHeartbeats 1000000 in
theorem forms_big (A : Option Addr) (na c : Nat) (B : Option Addr) (m d : Nat) (S : ByteArray) (ci : Int) (w : World) (h : ¬ (na ≤ 100 ∧ m ≤ 100 ∧ S.size ≤ 100)) :
    Calls Tryd.prog 3 #[.slice A na c, .slice B m d, .string S, .int .i64 ci] w fun e w' => e = .returned (.bool true) ∧ Keep NoB w w' := by
  by_cases h1 : na ≤ 100
  · have HG := Lib.hid (fun w => great_no A none none na c 0 0 0 0 w h1 (by decide) (by decide))
    by_cases h2 : m ≤ 100
    · have hq2 : decide ((100 : Int) < (m : Int)) = false := by rw [decide_eq_false_iff_not]; omega
      have hq3 : decide ((100 : Int) < (S.size : Int)) = true := by rw [decide_eq_true_iff]; omega
      clear h h1 h2
      go_enter Tryd.func3, Tryd.ntmps3
      go_wp2_with fail
      refine (HG.out _).mono ?_
      rintro e w1 ⟨rfl, k1⟩
      go_wp2
      go_ret
      exact ⟨rfl, k1⟩
    · have hq2 : decide ((100 : Int) < (m : Int)) = true := by rw [decide_eq_true_iff]; omega
      clear h h1 h2
      go_enter Tryd.func3, Tryd.ntmps3
      go_wp2_with fail
      refine (HG.out _).mono ?_
      rintro e w1 ⟨rfl, k1⟩
      go_wp2
      go_ret
      exact ⟨rfl, k1⟩
  · have HG := Lib.hid (fun w => great_yes A none none na c 0 0 0 0 w (by omega))
    clear h h1
    go_enter Tryd.func3, Tryd.ntmps3
    go_wp2_with fail
    refine (HG.out _).mono ?_
    rintro e w1 ⟨rfl, k1⟩
    go_wp2
    go_ret
    exact ⟨rfl, k1⟩

set_option maxRecDepth 100000 in
set_option maxHeartbeats 8000000 in
theorem forms_y (A : Option Addr) (l : List Int) (na c : Nat) (B : Option Addr) (b : List UInt8) (d : Nat) (S : ByteArray) (s : List UInt8) (ci : Int) (w : World) (hL : Hid (LetAt w)) (hr : Hid (Rd w A (ivs l))) (hn : Hid (l.length = na)) (hb : Hid (V.Rd w B b)) (hs : Hid (S.data.toList = s)) (h1 : na ≤ 100) (h2 : b.length ≤ 100) (h3 : S.size ≤ 100) (xs : List Int) (Q : Nat) (hd : decS b 0 = some (xs, Q)) :
    Calls Tryd.prog 3 #[.slice A na c, .slice B b.length d, .string S, .int .i64 ci] w fun e w' => e = .returned (.bool true) ∧ Keep NoB w w' := by
  have HL : Hid (b.length ≤ 140737488355328) := by show _ ≤ _; omega
  have HG := Lib.hid (fun w => great_no A none none na c 0 0 0 0 w h1 (by decide) (by decide))
  have hq2 : decide ((100 : Int) < (b.length : Int)) = false := by rw [decide_eq_false_iff_not]; omega
  have hq3 : decide ((100 : Int) < (S.size : Int)) = false := by rw [decide_eq_false_iff_not]; omega
  have hm : na ≤ 9223372036854775807 := by omega
  obtain ⟨i0, hi, hz0, hz1, hz2⟩ := info_parts int_info
  have HX := Lib.hid (fun A c w hr => encodeS_any A l na c w hr hn hm)
  have HY := Lib.hid (fun w hr => rencodeS_any A l na c w hr hn hm)
  have HD1 := Lib.hid (fun w br O h => decodeS_any w br O b 0 h HL.out)
  have HD2 := Lib.hid (fun w br O h => rdecodeS_any w br O b 0 h HL.out)
  have HCe := Lib.hid (fun A c w hr => cell_any A l na c ci w hr hn hm _ _ ⟨rfl, rfl⟩)
  have HCf := Lib.hid (fun w hr => rcell_any A l na c ci w hr hn hm _ _ ⟨rfl, rfl⟩)
  have HR1 := Lib.hid (fun w hL => readS_any S s w hL hs (by omega))
  have HR2 := Lib.hid (fun w => rreadS_any S s w hs (by omega))
  have HC1 := Lib.hid (fun A c w hr => chkS_any A l na c w hr hn hm _ rfl)
  have HC2 := Lib.hid (fun w hr => rchkS_any A l na c w hr hn hm _ rfl)
  have HS1 := Lib.hid (fun A c w hL hr => showS_any A l na c w hL hr hn hm)
  have HS2 := Lib.hid (fun w hr => rshowS_any A l na c w hr hn hm)
  have HLL := Lib.hid (fun A1 c1 w h1 h2 => ints_any A1 A l l na na c1 c w h1 h2 hn hn hm hm true (by show _ = _; simp))
  rw [hd] at HD1 HD2
  have hxl := decS_len (l := b) (p := 0)
  rw [hd] at hxl
  dsimp only [optL] at hxl
  obtain ⟨mx, hmx⟩ : ∃ mx, xs.length = mx := ⟨_, rfl⟩
  rw [hmx] at hxl
  have HM := Lib.hid hmx
  have HLX := Lib.hid (fun A1 A2 c1 c2 w h1 h2 => ints_any A1 A2 xs xs mx mx c1 c2 w h1 h2 hmx hmx (by omega) (by omega) true (by show _ = _; simp))
  have htl := rdS_len (s := s)
  obtain ⟨ts, hts⟩ : ∃ ts, rsL (rdS s) = ts := ⟨_, rfl⟩
  obtain ⟨te, hte⟩ : ∃ te, rsE (rdS s) = te := ⟨_, rfl⟩
  unfold ReadR at HR1 HR2
  rw [hts, hte] at HR1 HR2
  rw [hts] at htl
  obtain ⟨mt, hmt⟩ : ∃ mt, ts.length = mt := ⟨_, rfl⟩
  rw [hmt] at htl HR1 HR2
  have HLT := Lib.hid (fun A1 A2 c1 c2 w h1 h2 => ints_any A1 A2 ts ts mt mt c1 c2 w h1 h2 hmt hmt (by omega) (by omega) true (by show _ = _; simp))
  obtain ⟨X, hX⟩ : ∃ X, encS l = X := ⟨_, rfl⟩
  obtain ⟨E, hE⟩ : ∃ E, chkS l = E := ⟨_, rfl⟩
  rw [hX, hE] at HX HY
  rw [hE] at HC1 HC2
  obtain ⟨T, hT⟩ : ∃ T, cellT l ci = T := ⟨_, rfl⟩
  obtain ⟨TE, hTE⟩ : ∃ TE, cellE l ci = TE := ⟨_, rfl⟩
  rw [hT, hTE] at HCe HCf
  obtain ⟨TS, hTS⟩ : ∃ TS, W.str (shS l) = TS := ⟨_, rfl⟩
  rw [hTS] at HS1 HS2
  obtain ⟨SX, hSX⟩ : ∃ SX, V.str X = SX := ⟨_, rfl⟩
  obtain ⟨D, hD⟩ : ∃ D, V.str b = D := ⟨_, rfl⟩
  have hS0 := Lib.hid hSX
  have hD0 := Lib.hid hD
  have qS := list_self SX
  have qD := list_self D
  have qT := list_self TS
  clear hd hmx hmt hX hE hT hTE hTS hSX hD hts hte h2 h3
  go_enter Tryd.func3, Tryd.ntmps3
  go_wp2_with fail
  refine (HG.out _).mono ?_
  rintro e w0 ⟨rfl, gK⟩
  go_wp2_with (at_builtin; refine wpList_append_rd _ rfl (.tmp 43) (.tmp 44) _ rfl 3 1 8 i0 _ Tryd.underlying22 hi hz0 hz1 hz2 rfl (by decide) (.slice (some ⟨w0.heap.size, 0, none⟩) 0 0) 0 [] A na c (ivs l) rfl (made_int w0).1 rfl ((hr.out.keepN gK).keepN ((Keep.refl NoB w0).alloc _)) (by simp [hn.out]) (ivs_one l) (by unfold maxLen; omega) (by omega) ?_; intro A1 c1 w1 hrow hg1 hv1; obtain ⟨hO1, hK1⟩ := own_after (made_int w0).2 ((Keep.refl NoB w0).alloc _) hg1 hv1 hrow; clear hrow hg1 hv1)
  simp only [Nat.zero_add, List.nil_append] at hO1 ⊢
  obtain ⟨A1', c1', e1, hro⟩ := own_rdI hO1
  cases e1
  replace gK := keepN gK hK1
  clear hO1 hK1
  refine (V.twin_any _ B b d (rd_n hb.out gK) HL.out).mono ?_
  rintro e w2 ⟨vo, rfl, ho, k1⟩
  obtain ⟨Ao, co, rfl, ro, _⟩ := own_rd ho
  replace gK := keepN gK k1
  replace hro := hro.keepN k1
  clear ho k1
  go_wp2_with fail
  refine (HX.out _ _ _ hro).mono ?_
  rintro e w3 ⟨vu, rfl, hu, k1⟩
  obtain ⟨Au, cu, rfl, ru, _⟩ := own_rd hu
  replace gK := keepN gK k1
  replace hro := hro.keepN k1
  replace ro := rd_n ro k1
  clear hu k1
  go_wp2_with fail
  refine (HY.out _ (hr.out.keepN gK)).mono ?_
  rintro e w4 ⟨vv, rfl, hv, k1⟩
  obtain ⟨Av, cv, rfl, rv, _⟩ := own_rd hv
  replace gK := keepN gK k1
  replace hro := hro.keepN k1
  replace ro := rd_n ro k1
  replace ru := rd_n ru k1
  have hrl := hr.out.keepN gK
  have hrb := rd_n hb.out gK
  clear hv k1
  go_wp2_with fail
  refine (V.on_any _ Ao b co ro HL.out).mono ?_
  rintro e w5 ⟨br, rfl, hR, g4⟩
  have s4 := g4.size
  have hbr : w4.heap.size ≤ br := hR.1
  have hR := reel_new hR
  have hbr2 : br < w5.heap.size := reel_lt hR
  go_wp2_with fail
  refine (V.twin_any _ B b d (rd_n hrb g4) HL.out).mono ?_
  rintro e w6 ⟨vb, rfl, hbb, k1⟩
  obtain ⟨Ab, cb, rfl, hcb, rb, hAb, hmb⟩ := hbb.form
  have bb : ∀ ad, Ab = some ad → ad.block < w6.heap.size := fun ad e => (hbb.1.lt ad.block (by rw [e]; rfl)).2
  have s5 := k1.size
  replace k1 := k1.alloc (.cells #[.slice Ab b.length cb, .int .i64 0] 37)
  replace g4 := keepN g4 k1
  replace hR := hR.keep k1 (fun _ _ => id)
  have hS : V.RefAt (w6.alloc (.cells #[.slice Ab b.length cb, .int .i64 0] 37)) w6.heap.size (fun k => w5.heap.size ≤ k ∧ k < (w6.alloc (.cells #[.slice Ab b.length cb, .int .i64 0] 37)).heap.size) b 0 :=
    ⟨⟨s5, by simp⟩, Nat.zero_le _, Ab, cb, Blk.new _ _ _, rd_n rb ((Keep.refl NoB w6).alloc _), hcb, hmb, fun ad e => ⟨⟨(hAb ad e).1, by have := bb ad e; simp; omega⟩, by have := bb ad e; simp; omega⟩⟩
  clear k1 hbb rb hAb hcb hmb bb
  have s6 : (w6.alloc (.cells #[.slice Ab b.length cb, .int .i64 0] 37)).heap.size = w6.heap.size + 1 := by simp
  go_wp2_with fail
  refine (HD1.out _ br _ hR).mono ?_
  rintro e w7 ⟨vx, qx, rfl, hOx, hR, hQx, k1⟩
  obtain rfl : qx = Q := hQx _ rfl
  dsimp only [optL, optE] at hOx ⊢
  rw [HM.out] at hOx
  have s7 := k1.size
  replace hS := hS.keep k1 (fun k ho e => by omega)
  replace g4 := keep_br g4 k1 hbr
  clear k1 hQx
  go_wp2_with fail
  refine (HD2.out _ w6.heap.size _ hS).mono ?_
  rintro e w8 ⟨vy, qy, rfl, hOy, hS, hQy, k1⟩
  obtain rfl : qy = qx := hQy _ rfl
  dsimp only [optL, optE] at hOy ⊢
  rw [HM.out] at hOy
  replace hOx := hOx.keep k1 (fun k ho e => by unfold Fresh at ho; omega)
  obtain ⟨Ax, cx, rfl, rx⟩ := own_rdI hOx
  obtain ⟨Ay, cy, rfl, ry⟩ := own_rdI hOy
  replace hR := hR.keep k1 (fun k ho e => by omega)
  replace g4 := keep_br g4 k1 (by omega)
  clear k1 hOx hOy hQy
  replace hro := hro.keepN g4
  replace hrl := hrl.keepN g4
  replace hrb := rd_n hrb g4
  replace ro := rd_n ro g4
  replace ru := rd_n ru g4
  replace rv := rd_n rv g4
  replace gK := keepN gK g4
  clear g4
  go_wp2_with fail
  refine (HCe.out _ _ _ hro).mono ?_
  rintro e w9 ⟨rfl, k1⟩
  replace gK := keepN gK k1
  replace hro := hro.keepN k1
  replace hrl := hrl.keepN k1
  replace rx := rx.keepN k1
  replace ry := ry.keepN k1
  replace hrb := rd_n hrb k1
  replace ro := rd_n ro k1
  replace ru := rd_n ru k1
  replace rv := rd_n rv k1
  replace hR := hR.keep k1 (fun _ _ => id)
  replace hS := hS.keep k1 (fun _ _ => id)
  clear k1
  go_wp2_with fail
  refine (HCf.out _ hrl).mono ?_
  rintro e w10 ⟨rfl, k1⟩
  replace gK := keepN gK k1
  replace hro := hro.keepN k1
  replace hrl := hrl.keepN k1
  replace rx := rx.keepN k1
  replace ry := ry.keepN k1
  replace hrb := rd_n hrb k1
  replace ro := rd_n ro k1
  replace ru := rd_n ru k1
  replace rv := rd_n rv k1
  replace hR := hR.keep k1 (fun _ _ => id)
  replace hS := hS.keep k1 (fun _ _ => id)
  clear k1
  go_wp2_with fail
  refine (HR1.out _ (hL.out.keep gK)).mono ?_
  rintro e w11 ⟨vt, rfl, hOt, k1⟩
  obtain ⟨At, ct, rfl, rt⟩ := own_rdI hOt
  replace gK := keepN gK k1
  replace hro := hro.keepN k1
  replace hrl := hrl.keepN k1
  replace rx := rx.keepN k1
  replace ry := ry.keepN k1
  replace hrb := rd_n hrb k1
  replace ro := rd_n ro k1
  replace ru := rd_n ru k1
  replace rv := rd_n rv k1
  replace hR := hR.keep k1 (fun _ _ => id)
  replace hS := hS.keep k1 (fun _ _ => id)
  clear k1 hOt
  go_wp2_with fail
  refine (HR2.out _).mono ?_
  rintro e w12 ⟨vw, rfl, hOw, k1⟩
  obtain ⟨Aw, cw, rfl, rq⟩ := own_rdI hOw
  replace gK := keepN gK k1
  replace hro := hro.keepN k1
  replace hrl := hrl.keepN k1
  replace rx := rx.keepN k1
  replace ry := ry.keepN k1
  replace rt := rt.keepN k1
  replace hrb := rd_n hrb k1
  replace ro := rd_n ro k1
  replace ru := rd_n ru k1
  replace rv := rd_n rv k1
  replace hR := hR.keep k1 (fun _ _ => id)
  replace hS := hS.keep k1 (fun _ _ => id)
  clear k1 hOw
  go_wp2
  refine wp_region_sh ((0, false) :: (1, false) :: (2, false) :: (3, false) :: (4, false) :: (5, false) :: (6, false) :: (7, false) :: (8, false) :: (9, false) :: (10, false) :: (11, false) :: (12, false) :: (13, false) :: (14, false) :: (15, false) :: (16, false) :: (17, false) :: (18, false) :: (19, false) :: (20, false) :: (21, false) :: (22, false) :: (23, false) :: (24, false) :: (25, false) :: (26, false) :: (27, false) :: (28, false) :: (29, false) :: (30, false) :: (31, false) :: (32, false) :: (33, false) :: (34, false) :: (35, false) :: (36, false) :: (37, false) :: (38, false) :: (39, false) :: (40, false) :: (41, false) :: (42, false) :: (43, false) :: (44, false) :: (45, false) :: (46, false) :: (47, false) :: (48, false) :: (49, false) :: (50, false) :: (51, false) :: (52, false) :: (53, false) :: (54, false) :: []) (fun w' => Keep NoB w12 w') (by kernel_rfl) (by kernel_rfl) (by rfl) (by kernel_rfl) (stable_keep w12) (Keep.refl NoB w12).drew ?_
  refine shM_step rfl rfl rfl (by rfl) (by rfl) ?_
  apply Exists.intro
  refine ⟨fun z K hK => ?_, ?_, ?_⟩
  · go_big_quiet_op
    exact hK _ rfl
  · kernel_rfl
  refine shM_step rfl rfl rfl (by rfl) (by rfl) ?_
  apply Exists.intro
  refine ⟨fun z K hK => ?_, ?_, ?_⟩
  · have cu_ : ∀ y : KW z.w, (convert 23 9 (.slice Au X.length cu)).run Tryd.prog y.w = .ok (.string SX) y.w := fun y => by have := V.conv_rd (c := cu) (rd_n ru (keepN z.has y.keep)); rw [hS0.out] at this; exact this
    go_big_quiet_op
    exact hK _ rfl
  · kernel_rfl
  refine shM_step rfl rfl rfl (by rfl) (by rfl) ?_
  apply Exists.intro
  refine ⟨fun z K hK => ?_, ?_, ?_⟩
  · go_big_quiet_op
    exact hK _ rfl
  · kernel_rfl
  refine shM_step rfl rfl rfl (by rfl) (by rfl) ?_
  apply Exists.intro
  refine ⟨fun z K hK => ?_, ?_, ?_⟩
  · have cv_ : ∀ y : KW z.w, (convert 23 9 (.slice Av X.length cv)).run Tryd.prog y.w = .ok (.string SX) y.w := fun y => by have := V.conv_rd (c := cv) (rd_n rv (keepN z.has y.keep)); rw [hS0.out] at this; exact this
    go_big_quiet_op
    exact hK _ rfl
  · kernel_rfl
  refine shM_step rfl rfl rfl (by rfl) (by rfl) ?_
  apply Exists.intro
  refine ⟨fun z K hK => ?_, ?_, ?_⟩
  · go_big_quiet_op
    exact hK _ rfl
  · kernel_rfl
  refine shM_step rfl rfl rfl (by rfl) (by rfl) ?_
  apply Exists.intro
  refine ⟨fun z K hK => ?_, ?_, ?_⟩
  · go_big_quiet_op
    exact hK _ rfl
  · kernel_rfl
  refine shM_step rfl rfl rfl (by rfl) (by rfl) ?_
  apply Exists.intro
  refine ⟨fun z K hK => ?_, ?_, ?_⟩
  · go_big_quiet_op
    exact hK _ rfl
  · kernel_rfl
  refine shM_step rfl rfl rfl (by rfl) (by rfl) ?_
  apply Exists.intro
  refine ⟨fun z K hK => ?_, ?_, ?_⟩
  · go_big_quiet_op
    exact hK _ rfl
  · kernel_rfl
  refine shM_step rfl rfl rfl (by rfl) (by rfl) ?_
  apply Exists.intro
  refine ⟨fun z K hK => ?_, ?_, ?_⟩
  · go_big_quiet_op
    exact hK _ rfl
  · kernel_rfl
  refine shM_step rfl rfl rfl (by rfl) (by rfl) ?_
  apply Exists.intro
  refine ⟨fun z K hK => ?_, ?_, ?_⟩
  · go_big_quiet_op
    exact hK _ rfl
  · kernel_rfl
  refine shM_step rfl rfl rfl (by rfl) (by rfl) ?_
  apply Exists.intro
  refine ⟨fun z K hK => ?_, ?_, ?_⟩
  · go_big_quiet_op
    exact hK _ rfl
  · kernel_rfl
  refine shM_step rfl rfl rfl (by rfl) (by rfl) ?_
  apply Exists.intro
  refine ⟨fun z K hK => ?_, ?_, ?_⟩
  · go_big_quiet_op
    exact hK _ rfl
  · kernel_rfl
  refine shM_step rfl rfl rfl (by rfl) (by rfl) ?_
  apply Exists.intro
  refine ⟨fun z K hK => ?_, ?_, ?_⟩
  · go_big_quiet_op
    exact hK _ rfl
  · kernel_rfl
  refine shM_step rfl rfl rfl (by rfl) (by rfl) ?_
  apply Exists.intro
  refine ⟨fun z K hK => ?_, ?_, ?_⟩
  · go_big_quiet_op
    apply Exists.intro
    refine ⟨fun y => ?_, ?_⟩
    · go_at_call 20
      exact kept_of (HLX.out _ _ _ _ _ (rx.keepN (keepN z.has y.keep)) (ry.keepN (keepN z.has y.keep)))
    · exact hK _ rfl
  · kernel_rfl
  refine shM_step rfl rfl rfl (by rfl) (by rfl) ?_
  apply Exists.intro
  refine ⟨fun z K hK => ?_, ?_, ?_⟩
  · go_big_quiet_op
    exact hK _ rfl
  · kernel_rfl
  refine shM_step rfl rfl rfl (by rfl) (by rfl) ?_
  apply Exists.intro
  refine ⟨fun z K hK => ?_, ?_, ?_⟩
  · go_big_quiet_op
    exact hK _ rfl
  · kernel_rfl
  refine shM_step rfl rfl rfl (by rfl) (by rfl) ?_
  apply Exists.intro
  refine ⟨fun z K hK => ?_, ?_, ?_⟩
  · go_big_quiet_op
    exact hK _ rfl
  · kernel_rfl
  refine shM_step rfl rfl rfl (by rfl) (by rfl) ?_
  apply Exists.intro
  refine ⟨fun z K hK => ?_, ?_, ?_⟩
  · go_big_quiet_op
    exact hK _ rfl
  · kernel_rfl
  refine shM_step rfl rfl rfl (by rfl) (by rfl) ?_
  apply Exists.intro
  refine ⟨fun z K hK => ?_, ?_, ?_⟩
  · go_big_quiet_op
    exact hK _ rfl
  · kernel_rfl
  refine shM_step rfl rfl rfl (by rfl) (by rfl) ?_
  apply Exists.intro
  refine ⟨fun z K hK => ?_, ?_, ?_⟩
  · go_big_quiet_op
    exact hK _ rfl
  · kernel_rfl
  refine shM_step rfl rfl rfl (by rfl) (by rfl) ?_
  apply Exists.intro
  refine ⟨fun z K hK => ?_, ?_, ?_⟩
  · go_big_quiet_op
    exact hK _ rfl
  · kernel_rfl
  refine shM_step rfl rfl rfl (by rfl) (by rfl) ?_
  apply Exists.intro
  refine ⟨fun z K hK => ?_, ?_, ?_⟩
  · go_big_quiet_op
    exact hK _ rfl
  · kernel_rfl
  refine shM_step rfl rfl rfl (by rfl) (by rfl) ?_
  apply Exists.intro
  refine ⟨fun z K hK => ?_, ?_, ?_⟩
  · go_big_quiet_op
    exact hK _ rfl
  · kernel_rfl
  refine shM_step rfl rfl rfl (by rfl) (by rfl) ?_
  apply Exists.intro
  refine ⟨fun z K hK => ?_, ?_, ?_⟩
  · go_big_quiet_op
    exact hK _ rfl
  · kernel_rfl
  refine shM_step rfl rfl rfl (by rfl) (by rfl) ?_
  apply Exists.intro
  refine ⟨fun z K hK => ?_, ?_, ?_⟩
  · go_big_quiet_op
    exact hK _ rfl
  · kernel_rfl
  refine shM_step rfl rfl rfl (by rfl) (by rfl) ?_
  apply Exists.intro
  refine ⟨fun z K hK => ?_, ?_, ?_⟩
  · go_big_quiet_op
    exact hK _ rfl
  · kernel_rfl
  refine shM_step rfl rfl rfl (by rfl) (by rfl) ?_
  apply Exists.intro
  refine ⟨fun z K hK => ?_, ?_, ?_⟩
  · go_big_quiet_op
    apply Exists.intro
    refine ⟨fun y => ?_, ?_⟩
    · go_at_call 21
      exact kept_of (at_gen hR (keepN z.has y.keep))
    · exact hK _ rfl
  · kernel_rfl
  refine shM_step rfl rfl rfl (by rfl) (by rfl) ?_
  apply Exists.intro
  refine ⟨fun z K hK => ?_, ?_, ?_⟩
  · go_big_quiet_op
    exact hK _ rfl
  · kernel_rfl
  refine shM_step rfl rfl rfl (by rfl) (by rfl) ?_
  apply Exists.intro
  refine ⟨fun z K hK => ?_, ?_, ?_⟩
  · go_big_quiet_op
    exact hK _ rfl
  · kernel_rfl
  refine shM_step rfl rfl rfl (by rfl) (by rfl) ?_
  apply Exists.intro
  refine ⟨fun z K hK => ?_, ?_, ?_⟩
  · go_big_quiet_op
    exact hK _ rfl
  · kernel_rfl
  refine shM_step rfl rfl rfl (by rfl) (by rfl) ?_
  apply Exists.intro
  refine ⟨fun z K hK => ?_, ?_, ?_⟩
  · have sp : ∀ y : KW z.w, y.w.cell? ⟨w6.heap.size, 1, none⟩ = some (.int .i64 (qy : Int)) := fun y => ref_place (hS.keep (keepN z.has y.keep) (fun _ _ => id))
    go_big_quiet_op
    exact hK _ rfl
  · kernel_rfl
  refine shM_step rfl rfl rfl (by rfl) (by rfl) ?_
  apply Exists.intro
  refine ⟨fun z K hK => ?_, ?_, ?_⟩
  · go_big_quiet_op
    exact hK _ rfl
  · kernel_rfl
  refine shM_step rfl rfl rfl (by rfl) (by rfl) ?_
  apply Exists.intro
  refine ⟨fun z K hK => ?_, ?_, ?_⟩
  · go_big_quiet_op
    exact hK _ rfl
  · kernel_rfl
  refine shM_step rfl rfl rfl (by rfl) (by rfl) ?_
  apply Exists.intro
  refine ⟨fun z K hK => ?_, ?_, ?_⟩
  · go_big_quiet_op
    exact hK _ rfl
  · kernel_rfl
  refine shM_step rfl rfl rfl (by rfl) (by rfl) ?_
  apply Exists.intro
  refine ⟨fun z K hK => ?_, ?_, ?_⟩
  · go_big_quiet_op
    exact hK _ rfl
  · kernel_rfl
  refine shM_step rfl rfl rfl (by rfl) (by rfl) ?_
  apply Exists.intro
  refine ⟨fun z K hK => ?_, ?_, ?_⟩
  · go_big_quiet_op
    exact hK _ rfl
  · kernel_rfl
  refine shM_step rfl rfl rfl (by rfl) (by rfl) ?_
  apply Exists.intro
  refine ⟨fun z K hK => ?_, ?_, ?_⟩
  · go_big_quiet_op
    exact hK _ rfl
  · kernel_rfl
  refine shM_step rfl rfl rfl (by rfl) (by rfl) ?_
  apply Exists.intro
  refine ⟨fun z K hK => ?_, ?_, ?_⟩
  · go_big_quiet_op
    exact hK _ rfl
  · kernel_rfl
  refine shM_step rfl rfl rfl (by rfl) (by rfl) ?_
  apply Exists.intro
  refine ⟨fun z K hK => ?_, ?_, ?_⟩
  · go_big_quiet_op
    exact hK _ rfl
  · kernel_rfl
  refine shM_step rfl rfl rfl (by rfl) (by rfl) ?_
  apply Exists.intro
  refine ⟨fun z K hK => ?_, ?_, ?_⟩
  · go_big_quiet_op
    exact hK _ rfl
  · kernel_rfl
  refine shM_step rfl rfl rfl (by rfl) (by rfl) ?_
  apply Exists.intro
  refine ⟨fun z K hK => ?_, ?_, ?_⟩
  · go_big_quiet_op
    exact hK _ rfl
  · kernel_rfl
  refine shM_step rfl rfl rfl (by rfl) (by rfl) ?_
  apply Exists.intro
  refine ⟨fun z K hK => ?_, ?_, ?_⟩
  · go_big_quiet_op
    exact hK _ rfl
  · kernel_rfl
  refine shM_step rfl rfl rfl (by rfl) (by rfl) ?_
  apply Exists.intro
  refine ⟨fun z K hK => ?_, ?_, ?_⟩
  · go_big_quiet_op
    exact hK _ rfl
  · kernel_rfl
  refine shM_step rfl rfl rfl (by rfl) (by rfl) ?_
  apply Exists.intro
  refine ⟨fun z K hK => ?_, ?_, ?_⟩
  · go_big_quiet_op
    exact hK _ rfl
  · kernel_rfl
  refine shM_step rfl rfl rfl (by rfl) (by rfl) ?_
  apply Exists.intro
  refine ⟨fun z K hK => ?_, ?_, ?_⟩
  · go_big_quiet_op
    exact hK _ rfl
  · kernel_rfl
  refine shM_step rfl rfl rfl (by rfl) (by rfl) ?_
  apply Exists.intro
  refine ⟨fun z K hK => ?_, ?_, ?_⟩
  · go_big_quiet_op
    exact hK _ rfl
  · kernel_rfl
  refine shM_step rfl rfl rfl (by rfl) (by rfl) ?_
  apply Exists.intro
  refine ⟨fun z K hK => ?_, ?_, ?_⟩
  · go_big_quiet_op
    exact hK _ rfl
  · kernel_rfl
  refine shM_step rfl rfl rfl (by rfl) (by rfl) ?_
  apply Exists.intro
  refine ⟨fun z K hK => ?_, ?_, ?_⟩
  · go_big_quiet_op
    apply Exists.intro
    refine ⟨fun y => ?_, ?_⟩
    · go_at_call 20
      exact kept_of (HLT.out _ _ _ _ _ (rt.keepN (keepN z.has y.keep)) (rq.keepN (keepN z.has y.keep)))
    · exact hK _ rfl
  · kernel_rfl
  refine shM_step rfl rfl rfl (by rfl) (by rfl) ?_
  apply Exists.intro
  refine ⟨fun z K hK => ?_, ?_, ?_⟩
  · go_big_quiet_op
    exact hK _ rfl
  · kernel_rfl
  refine shM_step rfl rfl rfl (by rfl) (by rfl) ?_
  apply Exists.intro
  refine ⟨fun z K hK => ?_, ?_, ?_⟩
  · go_big_quiet_op
    exact hK _ rfl
  · kernel_rfl
  refine shM_step rfl rfl rfl (by rfl) (by rfl) ?_
  apply Exists.intro
  refine ⟨fun z K hK => ?_, ?_, ?_⟩
  · go_big_quiet_op
    exact hK _ rfl
  · kernel_rfl
  refine shM_step rfl rfl rfl (by rfl) (by rfl) ?_
  apply Exists.intro
  refine ⟨fun z K hK => ?_, ?_, ?_⟩
  · go_big_quiet_op
    exact hK _ rfl
  · kernel_rfl
  refine shM_step rfl rfl rfl (by rfl) (by rfl) ?_
  apply Exists.intro
  refine ⟨fun z K hK => ?_, ?_, ?_⟩
  · go_big_quiet_op
    exact hK _ rfl
  · kernel_rfl
  refine shM_step rfl rfl rfl (by rfl) (by rfl) ?_
  apply Exists.intro
  refine ⟨fun z K hK => ?_, ?_, ?_⟩
  · go_big_quiet_op
    exact hK _ rfl
  · kernel_rfl
  refine shM_step rfl rfl rfl (by rfl) (by rfl) ?_
  apply Exists.intro
  refine ⟨fun z K hK => ?_, ?_, ?_⟩
  · go_big_quiet_op
    exact hK _ rfl
  · kernel_rfl
  refine shM_nil (fun z => ?_)
  have k1 := z.has
  generalize z.w = w13 at k1 ⊢
  replace gK := keepN gK k1
  replace hro := hro.keepN k1
  replace hrl := hrl.keepN k1
  replace hrb := rd_n hrb k1
  replace ro := rd_n ro k1
  clear k1 rx ry rt rq ru rv hR hS
  go_wp2_with fail
  refine (HC1.out _ _ _ hro).mono ?_
  rintro e w14 ⟨rfl, k1⟩
  replace gK := keepN gK k1
  replace hro := hro.keepN k1
  replace hrl := hrl.keepN k1
  replace hrb := rd_n hrb k1
  replace ro := rd_n ro k1
  clear k1
  go_wp2_with fail
  refine (HC2.out _ hrl).mono ?_
  rintro e w15 ⟨rfl, k1⟩
  replace gK := keepN gK k1
  replace hro := hro.keepN k1
  replace hrl := hrl.keepN k1
  replace hrb := rd_n hrb k1
  replace ro := rd_n ro k1
  clear k1
  go_wp2_with fail
  refine (HS1.out _ _ _ (hL.out.keep gK) hro).mono ?_
  rintro e w16 ⟨rfl, k1⟩
  replace gK := keepN gK k1
  replace hro := hro.keepN k1
  replace hrl := hrl.keepN k1
  replace hrb := rd_n hrb k1
  replace ro := rd_n ro k1
  clear k1
  go_wp2_with fail
  refine (HS2.out _ hrl).mono ?_
  rintro e w17 ⟨rfl, k1⟩
  replace gK := keepN gK k1
  replace hro := hro.keepN k1
  replace hrl := hrl.keepN k1
  replace hrb := rd_n hrb k1
  replace ro := rd_n ro k1
  clear k1
  go_wp2_with fail
  refine (HLL.out _ _ _ hro hrl).mono ?_
  rintro e w18 ⟨rfl, k1⟩
  replace gK := keepN gK k1
  replace hro := hro.keepN k1
  replace hrl := hrl.keepN k1
  replace hrb := rd_n hrb k1
  replace ro := rd_n ro k1
  clear k1
  have co_ : (convert 23 9 (.slice Ao b.length co)).run Tryd.prog w18 = .ok (.string D) w18 := by have := V.conv_rd (c := co) ro; rw [hD0.out] at this; exact this
  have cb_ : (convert 23 9 (.slice B b.length d)).run Tryd.prog w18 = .ok (.string D) w18 := by have := V.conv_rd (c := d) hrb; rw [hD0.out] at this; exact this
  clear ro hrb hro hrl
  go_wp2
  go_ret
  exact ⟨rfl, gK⟩

set_option maxRecDepth 100000 in
set_option maxHeartbeats 8000000 in
theorem forms_n (A : Option Addr) (l : List Int) (na c : Nat) (B : Option Addr) (b : List UInt8) (d : Nat) (S : ByteArray) (s : List UInt8) (ci : Int) (w : World) (hL : Hid (LetAt w)) (hr : Hid (Rd w A (ivs l))) (hn : Hid (l.length = na)) (hb : Hid (V.Rd w B b)) (hs : Hid (S.data.toList = s)) (h1 : na ≤ 100) (h2 : b.length ≤ 100) (h3 : S.size ≤ 100) (hd : decS b 0 = none) :
    Calls Tryd.prog 3 #[.slice A na c, .slice B b.length d, .string S, .int .i64 ci] w fun e w' => e = .returned (.bool true) ∧ Keep NoB w w' := by
  have HL : Hid (b.length ≤ 140737488355328) := by show _ ≤ _; omega
  have HG := Lib.hid (fun w => great_no A none none na c 0 0 0 0 w h1 (by decide) (by decide))
  have hq2 : decide ((100 : Int) < (b.length : Int)) = false := by rw [decide_eq_false_iff_not]; omega
  have hq3 : decide ((100 : Int) < (S.size : Int)) = false := by rw [decide_eq_false_iff_not]; omega
  have hm : na ≤ 9223372036854775807 := by omega
  obtain ⟨i0, hi, hz0, hz1, hz2⟩ := info_parts int_info
  have HX := Lib.hid (fun A c w hr => encodeS_any A l na c w hr hn hm)
  have HY := Lib.hid (fun w hr => rencodeS_any A l na c w hr hn hm)
  have HD1 := Lib.hid (fun w br O h => decodeS_any w br O b 0 h HL.out)
  have HD2 := Lib.hid (fun w br O h => rdecodeS_any w br O b 0 h HL.out)
  have HCe := Lib.hid (fun A c w hr => cell_any A l na c ci w hr hn hm _ _ ⟨rfl, rfl⟩)
  have HCf := Lib.hid (fun w hr => rcell_any A l na c ci w hr hn hm _ _ ⟨rfl, rfl⟩)
  have HR1 := Lib.hid (fun w hL => readS_any S s w hL hs (by omega))
  have HR2 := Lib.hid (fun w => rreadS_any S s w hs (by omega))
  have HC1 := Lib.hid (fun A c w hr => chkS_any A l na c w hr hn hm _ rfl)
  have HC2 := Lib.hid (fun w hr => rchkS_any A l na c w hr hn hm _ rfl)
  have HS1 := Lib.hid (fun A c w hL hr => showS_any A l na c w hL hr hn hm)
  have HS2 := Lib.hid (fun w hr => rshowS_any A l na c w hr hn hm)
  have HLL := Lib.hid (fun A1 c1 w h1 h2 => ints_any A1 A l l na na c1 c w h1 h2 hn hn hm hm true (by show _ = _; simp))
  rw [hd] at HD1 HD2
  obtain ⟨xs, hxs⟩ : ∃ xs : List Int, [] = xs := ⟨_, rfl⟩
  have hxl : xs.length ≤ 16 := by rw [← hxs]; exact Nat.zero_le _
  obtain ⟨mx, hmx⟩ : ∃ mx, xs.length = mx := ⟨_, rfl⟩
  rw [hmx] at hxl
  have HM := Lib.hid hmx
  have HLX := Lib.hid (fun A1 A2 c1 c2 w h1 h2 => ints_any A1 A2 xs xs mx mx c1 c2 w h1 h2 hmx hmx (by omega) (by omega) true (by show _ = _; simp))
  have htl := rdS_len (s := s)
  obtain ⟨ts, hts⟩ : ∃ ts, rsL (rdS s) = ts := ⟨_, rfl⟩
  obtain ⟨te, hte⟩ : ∃ te, rsE (rdS s) = te := ⟨_, rfl⟩
  unfold ReadR at HR1 HR2
  rw [hts, hte] at HR1 HR2
  rw [hts] at htl
  obtain ⟨mt, hmt⟩ : ∃ mt, ts.length = mt := ⟨_, rfl⟩
  rw [hmt] at htl HR1 HR2
  have HLT := Lib.hid (fun A1 A2 c1 c2 w h1 h2 => ints_any A1 A2 ts ts mt mt c1 c2 w h1 h2 hmt hmt (by omega) (by omega) true (by show _ = _; simp))
  obtain ⟨X, hX⟩ : ∃ X, encS l = X := ⟨_, rfl⟩
  obtain ⟨E, hE⟩ : ∃ E, chkS l = E := ⟨_, rfl⟩
  rw [hX, hE] at HX HY
  rw [hE] at HC1 HC2
  obtain ⟨T, hT⟩ : ∃ T, cellT l ci = T := ⟨_, rfl⟩
  obtain ⟨TE, hTE⟩ : ∃ TE, cellE l ci = TE := ⟨_, rfl⟩
  rw [hT, hTE] at HCe HCf
  obtain ⟨TS, hTS⟩ : ∃ TS, W.str (shS l) = TS := ⟨_, rfl⟩
  rw [hTS] at HS1 HS2
  obtain ⟨SX, hSX⟩ : ∃ SX, V.str X = SX := ⟨_, rfl⟩
  obtain ⟨D, hD⟩ : ∃ D, V.str b = D := ⟨_, rfl⟩
  have hS0 := Lib.hid hSX
  have hD0 := Lib.hid hD
  have qS := list_self SX
  have qD := list_self D
  have qT := list_self TS
  clear hd hmx hmt hX hE hT hTE hTS hSX hD hts hte h2 h3
  go_enter Tryd.func3, Tryd.ntmps3
  go_wp2_with fail
  refine (HG.out _).mono ?_
  rintro e w0 ⟨rfl, gK⟩
  go_wp2_with (at_builtin; refine wpList_append_rd _ rfl (.tmp 43) (.tmp 44) _ rfl 3 1 8 i0 _ Tryd.underlying22 hi hz0 hz1 hz2 rfl (by decide) (.slice (some ⟨w0.heap.size, 0, none⟩) 0 0) 0 [] A na c (ivs l) rfl (made_int w0).1 rfl ((hr.out.keepN gK).keepN ((Keep.refl NoB w0).alloc _)) (by simp [hn.out]) (ivs_one l) (by unfold maxLen; omega) (by omega) ?_; intro A1 c1 w1 hrow hg1 hv1; obtain ⟨hO1, hK1⟩ := own_after (made_int w0).2 ((Keep.refl NoB w0).alloc _) hg1 hv1 hrow; clear hrow hg1 hv1)
  simp only [Nat.zero_add, List.nil_append] at hO1 ⊢
  obtain ⟨A1', c1', e1, hro⟩ := own_rdI hO1
  cases e1
  replace gK := keepN gK hK1
  clear hO1 hK1
  refine (V.twin_any _ B b d (rd_n hb.out gK) HL.out).mono ?_
  rintro e w2 ⟨vo, rfl, ho, k1⟩
  obtain ⟨Ao, co, rfl, ro, _⟩ := own_rd ho
  replace gK := keepN gK k1
  replace hro := hro.keepN k1
  clear ho k1
  go_wp2_with fail
  refine (HX.out _ _ _ hro).mono ?_
  rintro e w3 ⟨vu, rfl, hu, k1⟩
  obtain ⟨Au, cu, rfl, ru, _⟩ := own_rd hu
  replace gK := keepN gK k1
  replace hro := hro.keepN k1
  replace ro := rd_n ro k1
  clear hu k1
  go_wp2_with fail
  refine (HY.out _ (hr.out.keepN gK)).mono ?_
  rintro e w4 ⟨vv, rfl, hv, k1⟩
  obtain ⟨Av, cv, rfl, rv, _⟩ := own_rd hv
  replace gK := keepN gK k1
  replace hro := hro.keepN k1
  replace ro := rd_n ro k1
  replace ru := rd_n ru k1
  have hrl := hr.out.keepN gK
  have hrb := rd_n hb.out gK
  clear hv k1
  go_wp2_with fail
  refine (V.on_any _ Ao b co ro HL.out).mono ?_
  rintro e w5 ⟨br, rfl, hR, g4⟩
  have s4 := g4.size
  have hbr : w4.heap.size ≤ br := hR.1
  have hR := reel_new hR
  have hbr2 : br < w5.heap.size := reel_lt hR
  go_wp2_with fail
  refine (V.twin_any _ B b d (rd_n hrb g4) HL.out).mono ?_
  rintro e w6 ⟨vb, rfl, hbb, k1⟩
  obtain ⟨Ab, cb, rfl, hcb, rb, hAb, hmb⟩ := hbb.form
  have bb : ∀ ad, Ab = some ad → ad.block < w6.heap.size := fun ad e => (hbb.1.lt ad.block (by rw [e]; rfl)).2
  have s5 := k1.size
  replace k1 := k1.alloc (.cells #[.slice Ab b.length cb, .int .i64 0] 37)
  replace g4 := keepN g4 k1
  replace hR := hR.keep k1 (fun _ _ => id)
  have hS : V.RefAt (w6.alloc (.cells #[.slice Ab b.length cb, .int .i64 0] 37)) w6.heap.size (fun k => w5.heap.size ≤ k ∧ k < (w6.alloc (.cells #[.slice Ab b.length cb, .int .i64 0] 37)).heap.size) b 0 :=
    ⟨⟨s5, by simp⟩, Nat.zero_le _, Ab, cb, Blk.new _ _ _, rd_n rb ((Keep.refl NoB w6).alloc _), hcb, hmb, fun ad e => ⟨⟨(hAb ad e).1, by have := bb ad e; simp; omega⟩, by have := bb ad e; simp; omega⟩⟩
  clear k1 hbb rb hAb hcb hmb bb
  have s6 : (w6.alloc (.cells #[.slice Ab b.length cb, .int .i64 0] 37)).heap.size = w6.heap.size + 1 := by simp
  go_wp2_with fail
  refine (HD1.out _ br _ hR).mono ?_
  rintro e w7 ⟨vx, qx, rfl, hOx, hR, hQx, k1⟩
  dsimp only [optL, optE] at hOx ⊢
  rw [hxs, HM.out] at hOx
  have hqn : (60 : Int) ≠ 0 := by decide
  have s7 := k1.size
  replace hS := hS.keep k1 (fun k ho e => by omega)
  replace g4 := keep_br g4 k1 hbr
  clear k1 hQx
  go_wp2_with fail
  refine (HD2.out _ w6.heap.size _ hS).mono ?_
  rintro e w8 ⟨vy, qy, rfl, hOy, hS, hQy, k1⟩
  dsimp only [optL, optE] at hOy ⊢
  rw [hxs, HM.out] at hOy
  replace hOx := hOx.keep k1 (fun k ho e => by unfold Fresh at ho; omega)
  obtain ⟨Ax, cx, rfl, rx⟩ := own_rdI hOx
  obtain ⟨Ay, cy, rfl, ry⟩ := own_rdI hOy
  replace hR := hR.keep k1 (fun k ho e => by omega)
  replace g4 := keep_br g4 k1 (by omega)
  clear k1 hOx hOy hQy
  replace hro := hro.keepN g4
  replace hrl := hrl.keepN g4
  replace hrb := rd_n hrb g4
  replace ro := rd_n ro g4
  replace ru := rd_n ru g4
  replace rv := rd_n rv g4
  replace gK := keepN gK g4
  clear g4
  go_wp2_with fail
  refine (HCe.out _ _ _ hro).mono ?_
  rintro e w9 ⟨rfl, k1⟩
  replace gK := keepN gK k1
  replace hro := hro.keepN k1
  replace hrl := hrl.keepN k1
  replace rx := rx.keepN k1
  replace ry := ry.keepN k1
  replace hrb := rd_n hrb k1
  replace ro := rd_n ro k1
  replace ru := rd_n ru k1
  replace rv := rd_n rv k1
  replace hR := hR.keep k1 (fun _ _ => id)
  replace hS := hS.keep k1 (fun _ _ => id)
  clear k1
  go_wp2_with fail
  refine (HCf.out _ hrl).mono ?_
  rintro e w10 ⟨rfl, k1⟩
  replace gK := keepN gK k1
  replace hro := hro.keepN k1
  replace hrl := hrl.keepN k1
  replace rx := rx.keepN k1
  replace ry := ry.keepN k1
  replace hrb := rd_n hrb k1
  replace ro := rd_n ro k1
  replace ru := rd_n ru k1
  replace rv := rd_n rv k1
  replace hR := hR.keep k1 (fun _ _ => id)
  replace hS := hS.keep k1 (fun _ _ => id)
  clear k1
  go_wp2_with fail
  refine (HR1.out _ (hL.out.keep gK)).mono ?_
  rintro e w11 ⟨vt, rfl, hOt, k1⟩
  obtain ⟨At, ct, rfl, rt⟩ := own_rdI hOt
  replace gK := keepN gK k1
  replace hro := hro.keepN k1
  replace hrl := hrl.keepN k1
  replace rx := rx.keepN k1
  replace ry := ry.keepN k1
  replace hrb := rd_n hrb k1
  replace ro := rd_n ro k1
  replace ru := rd_n ru k1
  replace rv := rd_n rv k1
  replace hR := hR.keep k1 (fun _ _ => id)
  replace hS := hS.keep k1 (fun _ _ => id)
  clear k1 hOt
  go_wp2_with fail
  refine (HR2.out _).mono ?_
  rintro e w12 ⟨vw, rfl, hOw, k1⟩
  obtain ⟨Aw, cw, rfl, rq⟩ := own_rdI hOw
  replace gK := keepN gK k1
  replace hro := hro.keepN k1
  replace hrl := hrl.keepN k1
  replace rx := rx.keepN k1
  replace ry := ry.keepN k1
  replace rt := rt.keepN k1
  replace hrb := rd_n hrb k1
  replace ro := rd_n ro k1
  replace ru := rd_n ru k1
  replace rv := rd_n rv k1
  replace hR := hR.keep k1 (fun _ _ => id)
  replace hS := hS.keep k1 (fun _ _ => id)
  clear k1 hOw
  go_wp2
  refine wp_region_sh ((0, false) :: (1, false) :: (2, false) :: (3, false) :: (4, false) :: (5, false) :: (6, false) :: (7, false) :: (8, false) :: (9, false) :: (10, false) :: (11, false) :: (12, false) :: (13, false) :: (14, false) :: (15, false) :: (16, false) :: (17, false) :: (18, false) :: (19, false) :: (20, false) :: (21, false) :: (22, false) :: (23, false) :: (24, false) :: (25, false) :: (26, false) :: (27, false) :: (28, false) :: (29, false) :: (30, false) :: (31, false) :: (32, false) :: (33, false) :: (34, false) :: (35, false) :: (36, false) :: (37, false) :: (38, false) :: (39, false) :: (40, false) :: (41, false) :: (42, false) :: (43, false) :: (44, false) :: (45, false) :: (46, false) :: (47, false) :: (48, false) :: (49, false) :: (50, false) :: (51, false) :: (52, false) :: (53, false) :: (54, false) :: []) (fun w' => Keep NoB w12 w') (by kernel_rfl) (by kernel_rfl) (by rfl) (by kernel_rfl) (stable_keep w12) (Keep.refl NoB w12).drew ?_
  refine shM_step rfl rfl rfl (by rfl) (by rfl) ?_
  apply Exists.intro
  refine ⟨fun z K hK => ?_, ?_, ?_⟩
  · go_big_quiet_op
    exact hK _ rfl
  · kernel_rfl
  refine shM_step rfl rfl rfl (by rfl) (by rfl) ?_
  apply Exists.intro
  refine ⟨fun z K hK => ?_, ?_, ?_⟩
  · have cu_ : ∀ y : KW z.w, (convert 23 9 (.slice Au X.length cu)).run Tryd.prog y.w = .ok (.string SX) y.w := fun y => by have := V.conv_rd (c := cu) (rd_n ru (keepN z.has y.keep)); rw [hS0.out] at this; exact this
    go_big_quiet_op
    exact hK _ rfl
  · kernel_rfl
  refine shM_step rfl rfl rfl (by rfl) (by rfl) ?_
  apply Exists.intro
  refine ⟨fun z K hK => ?_, ?_, ?_⟩
  · go_big_quiet_op
    exact hK _ rfl
  · kernel_rfl
  refine shM_step rfl rfl rfl (by rfl) (by rfl) ?_
  apply Exists.intro
  refine ⟨fun z K hK => ?_, ?_, ?_⟩
  · have cv_ : ∀ y : KW z.w, (convert 23 9 (.slice Av X.length cv)).run Tryd.prog y.w = .ok (.string SX) y.w := fun y => by have := V.conv_rd (c := cv) (rd_n rv (keepN z.has y.keep)); rw [hS0.out] at this; exact this
    go_big_quiet_op
    exact hK _ rfl
  · kernel_rfl
  refine shM_step rfl rfl rfl (by rfl) (by rfl) ?_
  apply Exists.intro
  refine ⟨fun z K hK => ?_, ?_, ?_⟩
  · go_big_quiet_op
    exact hK _ rfl
  · kernel_rfl
  refine shM_step rfl rfl rfl (by rfl) (by rfl) ?_
  apply Exists.intro
  refine ⟨fun z K hK => ?_, ?_, ?_⟩
  · go_big_quiet_op
    exact hK _ rfl
  · kernel_rfl
  refine shM_step rfl rfl rfl (by rfl) (by rfl) ?_
  apply Exists.intro
  refine ⟨fun z K hK => ?_, ?_, ?_⟩
  · go_big_quiet_op
    exact hK _ rfl
  · kernel_rfl
  refine shM_step rfl rfl rfl (by rfl) (by rfl) ?_
  apply Exists.intro
  refine ⟨fun z K hK => ?_, ?_, ?_⟩
  · go_big_quiet_op
    exact hK _ rfl
  · kernel_rfl
  refine shM_step rfl rfl rfl (by rfl) (by rfl) ?_
  apply Exists.intro
  refine ⟨fun z K hK => ?_, ?_, ?_⟩
  · go_big_quiet_op
    exact hK _ rfl
  · kernel_rfl
  refine shM_step rfl rfl rfl (by rfl) (by rfl) ?_
  apply Exists.intro
  refine ⟨fun z K hK => ?_, ?_, ?_⟩
  · go_big_quiet_op
    exact hK _ rfl
  · kernel_rfl
  refine shM_step rfl rfl rfl (by rfl) (by rfl) ?_
  apply Exists.intro
  refine ⟨fun z K hK => ?_, ?_, ?_⟩
  · go_big_quiet_op
    exact hK _ rfl
  · kernel_rfl
  refine shM_step rfl rfl rfl (by rfl) (by rfl) ?_
  apply Exists.intro
  refine ⟨fun z K hK => ?_, ?_, ?_⟩
  · go_big_quiet_op
    exact hK _ rfl
  · kernel_rfl
  refine shM_step rfl rfl rfl (by rfl) (by rfl) ?_
  apply Exists.intro
  refine ⟨fun z K hK => ?_, ?_, ?_⟩
  · go_big_quiet_op
    exact hK _ rfl
  · kernel_rfl
  refine shM_step rfl rfl rfl (by rfl) (by rfl) ?_
  apply Exists.intro
  refine ⟨fun z K hK => ?_, ?_, ?_⟩
  · go_big_quiet_op
    apply Exists.intro
    refine ⟨fun y => ?_, ?_⟩
    · go_at_call 20
      exact kept_of (HLX.out _ _ _ _ _ (rx.keepN (keepN z.has y.keep)) (ry.keepN (keepN z.has y.keep)))
    · exact hK _ rfl
  · kernel_rfl
  refine shM_step rfl rfl rfl (by rfl) (by rfl) ?_
  apply Exists.intro
  refine ⟨fun z K hK => ?_, ?_, ?_⟩
  · go_big_quiet_op
    exact hK _ rfl
  · kernel_rfl
  refine shM_step rfl rfl rfl (by rfl) (by rfl) ?_
  apply Exists.intro
  refine ⟨fun z K hK => ?_, ?_, ?_⟩
  · go_big_quiet_op
    exact hK _ rfl
  · kernel_rfl
  refine shM_step rfl rfl rfl (by rfl) (by rfl) ?_
  apply Exists.intro
  refine ⟨fun z K hK => ?_, ?_, ?_⟩
  · go_big_quiet_op
    exact hK _ rfl
  · kernel_rfl
  refine shM_step rfl rfl rfl (by rfl) (by rfl) ?_
  apply Exists.intro
  refine ⟨fun z K hK => ?_, ?_, ?_⟩
  · go_big_quiet_op
    exact hK _ rfl
  · kernel_rfl
  refine shM_step rfl rfl rfl (by rfl) (by rfl) ?_
  apply Exists.intro
  refine ⟨fun z K hK => ?_, ?_, ?_⟩
  · go_big_quiet_op
    exact hK _ rfl
  · kernel_rfl
  refine shM_step rfl rfl rfl (by rfl) (by rfl) ?_
  apply Exists.intro
  refine ⟨fun z K hK => ?_, ?_, ?_⟩
  · go_big_quiet_op
    exact hK _ rfl
  · kernel_rfl
  refine shM_step rfl rfl rfl (by rfl) (by rfl) ?_
  apply Exists.intro
  refine ⟨fun z K hK => ?_, ?_, ?_⟩
  · go_big_quiet_op
    exact hK _ rfl
  · kernel_rfl
  refine shM_step rfl rfl rfl (by rfl) (by rfl) ?_
  apply Exists.intro
  refine ⟨fun z K hK => ?_, ?_, ?_⟩
  · go_big_quiet_op
    exact hK _ rfl
  · kernel_rfl
  refine shM_step rfl rfl rfl (by rfl) (by rfl) ?_
  apply Exists.intro
  refine ⟨fun z K hK => ?_, ?_, ?_⟩
  · go_big_quiet_op
    exact hK _ rfl
  · kernel_rfl
  refine shM_step rfl rfl rfl (by rfl) (by rfl) ?_
  apply Exists.intro
  refine ⟨fun z K hK => ?_, ?_, ?_⟩
  · go_big_quiet_op
    exact hK _ rfl
  · kernel_rfl
  refine shM_step rfl rfl rfl (by rfl) (by rfl) ?_
  apply Exists.intro
  refine ⟨fun z K hK => ?_, ?_, ?_⟩
  · go_big_quiet_op
    exact hK _ rfl
  · kernel_rfl
  refine shM_skip rfl (by kernel_rfl) (by kernel_rfl) ?_
  refine shM_skip rfl (by kernel_rfl) (by kernel_rfl) ?_
  refine shM_skip rfl (by kernel_rfl) (by kernel_rfl) ?_
  refine shM_skip rfl (by kernel_rfl) (by kernel_rfl) ?_
  refine shM_skip rfl (by kernel_rfl) (by kernel_rfl) ?_
  refine shM_skip rfl (by kernel_rfl) (by kernel_rfl) ?_
  refine shM_skip rfl (by kernel_rfl) (by kernel_rfl) ?_
  refine shM_step rfl rfl rfl (by rfl) (by rfl) ?_
  apply Exists.intro
  refine ⟨fun z K hK => ?_, ?_, ?_⟩
  · go_big_quiet_op
    exact hK _ rfl
  · kernel_rfl
  refine shM_step rfl rfl rfl (by rfl) (by rfl) ?_
  apply Exists.intro
  refine ⟨fun z K hK => ?_, ?_, ?_⟩
  · go_big_quiet_op
    exact hK _ rfl
  · kernel_rfl
  refine shM_step rfl rfl rfl (by rfl) (by rfl) ?_
  apply Exists.intro
  refine ⟨fun z K hK => ?_, ?_, ?_⟩
  · go_big_quiet_op
    exact hK _ rfl
  · kernel_rfl
  refine shM_step rfl rfl rfl (by rfl) (by rfl) ?_
  apply Exists.intro
  refine ⟨fun z K hK => ?_, ?_, ?_⟩
  · go_big_quiet_op
    exact hK _ rfl
  · kernel_rfl
  refine shM_step rfl rfl rfl (by rfl) (by rfl) ?_
  apply Exists.intro
  refine ⟨fun z K hK => ?_, ?_, ?_⟩
  · go_big_quiet_op
    exact hK _ rfl
  · kernel_rfl
  refine shM_step rfl rfl rfl (by rfl) (by rfl) ?_
  apply Exists.intro
  refine ⟨fun z K hK => ?_, ?_, ?_⟩
  · go_big_quiet_op
    exact hK _ rfl
  · kernel_rfl
  refine shM_step rfl rfl rfl (by rfl) (by rfl) ?_
  apply Exists.intro
  refine ⟨fun z K hK => ?_, ?_, ?_⟩
  · go_big_quiet_op
    exact hK _ rfl
  · kernel_rfl
  refine shM_step rfl rfl rfl (by rfl) (by rfl) ?_
  apply Exists.intro
  refine ⟨fun z K hK => ?_, ?_, ?_⟩
  · go_big_quiet_op
    exact hK _ rfl
  · kernel_rfl
  refine shM_step rfl rfl rfl (by rfl) (by rfl) ?_
  apply Exists.intro
  refine ⟨fun z K hK => ?_, ?_, ?_⟩
  · go_big_quiet_op
    exact hK _ rfl
  · kernel_rfl
  refine shM_step rfl rfl rfl (by rfl) (by rfl) ?_
  apply Exists.intro
  refine ⟨fun z K hK => ?_, ?_, ?_⟩
  · go_big_quiet_op
    exact hK _ rfl
  · kernel_rfl
  refine shM_step rfl rfl rfl (by rfl) (by rfl) ?_
  apply Exists.intro
  refine ⟨fun z K hK => ?_, ?_, ?_⟩
  · go_big_quiet_op
    exact hK _ rfl
  · kernel_rfl
  refine shM_step rfl rfl rfl (by rfl) (by rfl) ?_
  apply Exists.intro
  refine ⟨fun z K hK => ?_, ?_, ?_⟩
  · go_big_quiet_op
    exact hK _ rfl
  · kernel_rfl
  refine shM_step rfl rfl rfl (by rfl) (by rfl) ?_
  apply Exists.intro
  refine ⟨fun z K hK => ?_, ?_, ?_⟩
  · go_big_quiet_op
    exact hK _ rfl
  · kernel_rfl
  refine shM_step rfl rfl rfl (by rfl) (by rfl) ?_
  apply Exists.intro
  refine ⟨fun z K hK => ?_, ?_, ?_⟩
  · go_big_quiet_op
    exact hK _ rfl
  · kernel_rfl
  refine shM_step rfl rfl rfl (by rfl) (by rfl) ?_
  apply Exists.intro
  refine ⟨fun z K hK => ?_, ?_, ?_⟩
  · go_big_quiet_op
    exact hK _ rfl
  · kernel_rfl
  refine shM_step rfl rfl rfl (by rfl) (by rfl) ?_
  apply Exists.intro
  refine ⟨fun z K hK => ?_, ?_, ?_⟩
  · go_big_quiet_op
    apply Exists.intro
    refine ⟨fun y => ?_, ?_⟩
    · go_at_call 20
      exact kept_of (HLT.out _ _ _ _ _ (rt.keepN (keepN z.has y.keep)) (rq.keepN (keepN z.has y.keep)))
    · exact hK _ rfl
  · kernel_rfl
  refine shM_step rfl rfl rfl (by rfl) (by rfl) ?_
  apply Exists.intro
  refine ⟨fun z K hK => ?_, ?_, ?_⟩
  · go_big_quiet_op
    exact hK _ rfl
  · kernel_rfl
  refine shM_step rfl rfl rfl (by rfl) (by rfl) ?_
  apply Exists.intro
  refine ⟨fun z K hK => ?_, ?_, ?_⟩
  · go_big_quiet_op
    exact hK _ rfl
  · kernel_rfl
  refine shM_step rfl rfl rfl (by rfl) (by rfl) ?_
  apply Exists.intro
  refine ⟨fun z K hK => ?_, ?_, ?_⟩
  · go_big_quiet_op
    exact hK _ rfl
  · kernel_rfl
  refine shM_step rfl rfl rfl (by rfl) (by rfl) ?_
  apply Exists.intro
  refine ⟨fun z K hK => ?_, ?_, ?_⟩
  · go_big_quiet_op
    exact hK _ rfl
  · kernel_rfl
  refine shM_step rfl rfl rfl (by rfl) (by rfl) ?_
  apply Exists.intro
  refine ⟨fun z K hK => ?_, ?_, ?_⟩
  · go_big_quiet_op
    exact hK _ rfl
  · kernel_rfl
  refine shM_step rfl rfl rfl (by rfl) (by rfl) ?_
  apply Exists.intro
  refine ⟨fun z K hK => ?_, ?_, ?_⟩
  · go_big_quiet_op
    exact hK _ rfl
  · kernel_rfl
  refine shM_step rfl rfl rfl (by rfl) (by rfl) ?_
  apply Exists.intro
  refine ⟨fun z K hK => ?_, ?_, ?_⟩
  · go_big_quiet_op
    exact hK _ rfl
  · kernel_rfl
  refine shM_nil (fun z => ?_)
  have k1 := z.has
  generalize z.w = w13 at k1 ⊢
  replace gK := keepN gK k1
  replace hro := hro.keepN k1
  replace hrl := hrl.keepN k1
  replace hrb := rd_n hrb k1
  replace ro := rd_n ro k1
  clear k1 rx ry rt rq ru rv hR hS
  go_wp2_with fail
  refine (HC1.out _ _ _ hro).mono ?_
  rintro e w14 ⟨rfl, k1⟩
  replace gK := keepN gK k1
  replace hro := hro.keepN k1
  replace hrl := hrl.keepN k1
  replace hrb := rd_n hrb k1
  replace ro := rd_n ro k1
  clear k1
  go_wp2_with fail
  refine (HC2.out _ hrl).mono ?_
  rintro e w15 ⟨rfl, k1⟩
  replace gK := keepN gK k1
  replace hro := hro.keepN k1
  replace hrl := hrl.keepN k1
  replace hrb := rd_n hrb k1
  replace ro := rd_n ro k1
  clear k1
  go_wp2_with fail
  refine (HS1.out _ _ _ (hL.out.keep gK) hro).mono ?_
  rintro e w16 ⟨rfl, k1⟩
  replace gK := keepN gK k1
  replace hro := hro.keepN k1
  replace hrl := hrl.keepN k1
  replace hrb := rd_n hrb k1
  replace ro := rd_n ro k1
  clear k1
  go_wp2_with fail
  refine (HS2.out _ hrl).mono ?_
  rintro e w17 ⟨rfl, k1⟩
  replace gK := keepN gK k1
  replace hro := hro.keepN k1
  replace hrl := hrl.keepN k1
  replace hrb := rd_n hrb k1
  replace ro := rd_n ro k1
  clear k1
  go_wp2_with fail
  refine (HLL.out _ _ _ hro hrl).mono ?_
  rintro e w18 ⟨rfl, k1⟩
  replace gK := keepN gK k1
  replace hro := hro.keepN k1
  replace hrl := hrl.keepN k1
  replace hrb := rd_n hrb k1
  replace ro := rd_n ro k1
  clear k1
  have co_ : (convert 23 9 (.slice Ao b.length co)).run Tryd.prog w18 = .ok (.string D) w18 := by have := V.conv_rd (c := co) ro; rw [hD0.out] at this; exact this
  have cb_ : (convert 23 9 (.slice B b.length d)).run Tryd.prog w18 = .ok (.string D) w18 := by have := V.conv_rd (c := d) hrb; rw [hD0.out] at this; exact this
  clear ro hrb hro hrl
  go_wp2
  go_ret
  exact ⟨rfl, gK⟩

theorem forms_walk (A : Option Addr) (l : List Int) (na c : Nat) (B : Option Addr) (b : List UInt8) (d : Nat) (S : ByteArray) (ci : Int) (w : World) (hL : LetAt w) (hr : Rd w A (ivs l)) (hn : l.length = na) (hb : V.Rd w B b) :
    Calls Tryd.prog 3 #[.slice A na c, .slice B b.length d, .string S, .int .i64 ci] w fun e w' => e = .returned (.bool true) ∧ Keep NoB w w' := by
  by_cases h : na ≤ 100 ∧ b.length ≤ 100 ∧ S.size ≤ 100
  · obtain ⟨h1, h2, h3⟩ := h
    cases hd : decS b 0 with
    | none => exact forms_n A l na c B b d S _ ci w hL hr hn hb rfl h1 h2 h3 hd
    | some x => exact forms_y A l na c B b d S _ ci w hL hr hn hb rfl h1 h2 h3 x.1 x.2 hd
  · exact forms_big A na c B b.length d S ci w h

end Go.Proofs.YtieejecodfeodaaDoor.S

namespace Go.Proofs.YtieejecodfeodaaDoor.S
open Go.RowKit W

theorem rdG_k1 {s : List UInt8} {k : Nat} (hk : arr s = k) (h : k < s.length) (h1 : untxt (s.take k) = none) : rdG s = none := by subst hk; exact rdG_1 h h1
theorem rdG_k2 {s : List UInt8} {a : List Int} {k : Nat} (hk : arr s = k) (h : k < s.length) (h1 : untxt (s.take k) = some a) (h2 : untxt (s.drop (k + 1)) = none) : rdG s = none := by subst hk; exact rdG_2 h h1 h2
theorem rdG_k3 {s : List UInt8} {a r : List Int} {k : Nat} (hk : arr s = k) (h : k < s.length) (h1 : untxt (s.take k) = some a) (h2 : untxt (s.drop (k + 1)) = some r) (ho : okG a r = false) : rdG s = none := by subst hk; exact rdG_3 h h1 h2 ho
theorem rdG_k4 {s : List UInt8} {a r : List Int} {k : Nat} (hk : arr s = k) (h : k < s.length) (h1 : untxt (s.take k) = some a) (h2 : untxt (s.drop (k + 1)) = some r) (ho : okG a r = true) : rdG s = some (a, r) := by subst hk; exact rdG_4 h h1 h2 ho
theorem lists_ext {S : ByteArray} {s : List UInt8} (hs : S.data.toList = s) (k : Nat) : (S.extract 0 k).data.toList = s.take k ∧ (S.extract k S.size).data.toList = s.drop k := by
  rw [ext_left hs, ext_right hs]; exact ⟨by simp, by simp⟩

set_option maxRecDepth 100000 in
set_option maxHeartbeats 4000000 in
theorem rreadG_any (S : ByteArray) (s : List UInt8) (w : World) (hs : Hid (S.data.toList = s)) (h1 : S.size ≤ 9223372036854775807) :
    Calls Tryd.prog 32 #[.string S] w (SgT w (rdG s)) := by
  have HSZ := Lib.hid (size_of hs.out)
  have bz := Blk.new w 26 #[.slice none 0 0, .slice none 0 0]
  have k0 := (Keep.refl NoB w).alloc (.cells #[.slice none 0 0, .slice none 0 0] 26)
  go_enter Tryd.func32, Tryd.ntmps32
  go_wp2
  go_loopw [4] (fun i wr => ∃ k : Nat, k ≤ S.size ∧ i = .int .i64 k ∧ Hid (∀ c ∈ s.take k, c ≠ 62) ∧ Blk wr w.heap.size 26 #[.slice none 0 0, .slice none 0 0] ∧ Keep NoB w wr) (fun i _ => S.size - (intOf i).toNat)
  case atStart => exact ⟨0, Nat.zero_le _, rfl, fun c h => by simp at h, bz, k0⟩
  case round =>
    clear bz k0
    obtain ⟨k, hk, rfl, hall, bz, gK⟩ := hrel
    by_cases hlt : k < S.size
    · have hks : k < s.length := by rw [← HSZ.out]; exact hlt
      have hbt := byte_at hs.out k hlt hks
      by_cases hc : s[k] = 62
      · have har := arr_hit hks hall.out hc
        have hq : (S[k]'hlt).toNat = 62 := by rw [hbt, hc]; rfl
        have hs1 := (lists_ext hs.out k).1
        have hs2 := (lists_ext hs.out (k + 1)).2
        have hl1 : (S.extract 0 k).size ≤ 9223372036854775807 := by simp; omega
        have hl2 : (S.extract (k + 1) S.size).size ≤ 9223372036854775807 := by simp; omega
        have hzr := bz.lt
        cases hu : untxt (s.take k) with
        | none =>
          have HT := Lib.hid (fun w => rtypes_no (S.extract 0 k) (s.take k) w hs1 hl1 hu)
          have HT2 := Lib.hid (fun w => rtypes_any (S.extract (k + 1) S.size) (s.drop (k + 1)) w hs2 hl2)
          have HD := Lib.hid (rdG_k1 har hks hu)
          unfold TypesR at HT2
          generalize tN (s.drop (k + 1)) = n2 at HT2
          generalize tE (s.drop (k + 1)) = e2 at HT2
          clear hu hs1 hs2 hl1 hl2 hc hbt hall hs har
          go_wp2_with fail
          refine (HT.out _).mono ?_
          rintro e w1 ⟨B1, d1, rfl, k1⟩
          replace bz := bz.keep k1 id
          replace gK := keepN gK k1
          clear k1
          go_wp2_with fail
          refine (HT2.out _).mono ?_
          rintro e w2 ⟨B2, d2, rfl, _, k2⟩
          replace bz := (bz.keep k2 id).alloc (.cells #[.slice B1 0 d1, .slice B2 n2 d2] 26)
          replace gK := (keepN gK k2).alloc (.cells #[.slice B1 0 d1, .slice B2 n2 d2] 26)
          obtain ⟨z0, z1⟩ := blk2 bz
          have fz := fun i => bz.frozen i
          have HBZ := Lib.hid (fun u v => blk_put2 bz u v)
          clear bz k2
          go_wp2
          refine bodyPost_ret (ret_sig rfl rfl (HBZ.out _ _) rfl) rfl ?_
          exact sgt_none HD.out (keep_put2 gK (Nat.le_refl _) _ _)
        | some a =>
          have HT := Lib.hid (fun w => rtypes_yes (S.extract 0 k) (s.take k) a w hs1 hl1 hu)
          have hla := untxt_len hu
          cases hv : untxt (s.drop (k + 1)) with
          | none =>
            have HT2 := Lib.hid (fun w => rtypes_no (S.extract (k + 1) S.size) (s.drop (k + 1)) w hs2 hl2 hv)
            have HD := Lib.hid (rdG_k2 har hks hu hv)
            clear hu hv hs1 hs2 hl1 hl2 hc hbt hall hs har hla
            go_wp2_with fail
            refine (HT.out _).mono ?_
            rintro e w1 ⟨B1, d1, rfl, hO1, k1⟩
            replace bz := bz.keep k1 id
            replace gK := keepN gK k1
            clear k1 hO1
            go_wp2_with fail
            refine (HT2.out _).mono ?_
            rintro e w2 ⟨B2, d2, rfl, k2⟩
            replace bz := (bz.keep k2 id).alloc (.cells #[.slice B1 a.length d1, .slice B2 0 d2] 26)
            replace gK := (keepN gK k2).alloc (.cells #[.slice B1 a.length d1, .slice B2 0 d2] 26)
            obtain ⟨z0, z1⟩ := blk2 bz
            have fz := fun i => bz.frozen i
            have HBZ := Lib.hid (fun u v => blk_put2 bz u v)
            clear bz k2
            go_wp2
            refine bodyPost_ret (ret_sig rfl rfl (HBZ.out _ _) rfl) rfl ?_
            exact sgt_none HD.out (keep_put2 gK (Nat.le_refl _) _ _)
          | some r =>
            have HT2 := Lib.hid (fun w => rtypes_yes (S.extract (k + 1) S.size) (s.drop (k + 1)) r w hs2 hl2 hv)
            have hlb := untxt_len hv
            have HI : Hid ((okG a r = false → rdG s = none ∧ ∀ (A : Option Addr) (ca : Nat) (B : Option Addr) (cb : Nat) (w : World), Rd w A (ivs a) → Rd w B (ivs r) → Calls Tryd.prog 35 #[.agg #[.slice A a.length ca, .slice B r.length cb]] w fun e w' => e = .returned (.int .i64 61) ∧ Keep NoB w w') ∧
              (okG a r = true → rdG s = some (a, r) ∧ ∀ (A : Option Addr) (ca : Nat) (B : Option Addr) (cb : Nat) (w : World), Rd w A (ivs a) → Rd w B (ivs r) → Calls Tryd.prog 35 #[.agg #[.slice A a.length ca, .slice B r.length cb]] w fun e w' => e = .returned (.int .i64 0) ∧ Keep NoB w w')) :=
              ⟨fun ho => ⟨rdG_k3 har hks hu hv ho, fun A ca B cb w ha hr => rchkG_any A a _ ca B r _ cb w ha hr rfl rfl (by omega) (by omega) 61 (chkG_no ho)⟩, fun ho => ⟨rdG_k4 har hks hu hv ho, fun A ca B cb w ha hr => rchkG_any A a _ ca B r _ cb w ha hr rfl rfl (by omega) (by omega) 0 (chkG_ok ho)⟩⟩
            clear hu hv hs1 hs2 hl1 hl2 hc hbt hall hs har hla hlb
            go_wp2_with fail
            refine (HT.out _).mono ?_
            rintro e w1 ⟨B1, d1, rfl, hO1, k1⟩
            replace bz := bz.keep k1 id
            have hzs := bz.lt
            replace hO1 := hO1.mono (O' := fun k => w.heap.size < k) (fun k hf _ => by unfold Fresh at hf; have := hzr; omega)
            replace gK := keepN gK k1
            clear k1
            go_wp2_with fail
            refine (HT2.out _).mono ?_
            rintro e w2 ⟨B2, d2, rfl, hO2, k2⟩
            replace hO2 := hO2.mono (O' := fun k => w.heap.size < k) (fun k hf _ => by unfold Fresh at hf; omega)
            have kA := (Keep.refl NoB w2).alloc (.cells #[.slice B1 a.length d1, .slice B2 r.length d2] 26)
            replace hO2 := hO2.keepN kA
            replace hO1 := (hO1.keepN k2).keepN kA
            have bg := Blk.new w2 26 #[.slice B1 a.length d1, .slice B2 r.length d2]
            replace bz := (bz.keep k2 id).alloc (.cells #[.slice B1 a.length d1, .slice B2 r.length d2] 26)
            replace gK := (keepN gK k2).alloc (.cells #[.slice B1 a.length d1, .slice B2 r.length d2] 26)
            have r1 : Rd (w2.alloc (.cells #[.slice B1 a.length d1, .slice B2 r.length d2] 26)) B1 (ivs a) := by
              obtain ⟨A', c', e, hr⟩ := own_rdI hO1
              cases e; exact hr
            have r2 : Rd (w2.alloc (.cells #[.slice B1 a.length d1, .slice B2 r.length d2] 26)) B2 (ivs r) := by
              obtain ⟨A', c', e, hr⟩ := own_rdI hO2
              cases e; exact hr
            clear k2 kA HT HT2
            cases ho : okG a r
            · obtain ⟨hD, hI⟩ := HI.out.1 ho
              have HD := Lib.hid hD
              have HI2 := Lib.hid hI
              clear hD hI HI ho hO1 hO2
              go_wp2_with fail
              refine (HI2.out _ _ _ _ _ r1 r2).mono ?_
              rintro e w4 ⟨rfl, k4⟩
              have bz2 := bz.keep k4 id
              obtain ⟨z0, z1⟩ := blk2 bz2
              have fz := fun i => bz2.frozen i
              have HBZ := Lib.hid (fun u v => blk_put2 bz2 u v)
              replace gK := keepN gK k4
              clear bz bz2 k4 r1 r2 HI2 bg
              go_wp2
              refine bodyPost_ret (ret_sig rfl rfl (HBZ.out _ _) rfl) rfl ?_
              exact sgt_none HD.out (keep_put2 gK (Nat.le_refl _) _ _)
            · obtain ⟨hD, hI⟩ := HI.out.2 ho
              have HD := Lib.hid hD
              have HI2 := Lib.hid hI
              clear hD hI HI ho
              go_wp2_with fail
              refine (HI2.out _ _ _ _ _ r1 r2).mono ?_
              rintro e w4 ⟨rfl, k4⟩
              have bz2 := bz.keep k4 id
              obtain ⟨z0, z1⟩ := blk2 bz2
              obtain ⟨g0, g1⟩ := blk2 (bg.keep k4 id)
              have fz := fun i => bz2.frozen i
              have HBZ := Lib.hid (fun u v => blk_put2 bz2 u v)
              have HP1 := Lib.hid (own_put2 (hO1.keepN k4) (Nat.le_refl _) (.slice B1 a.length d1) (.slice B2 r.length d2))
              have HP2 := Lib.hid (own_put2 (hO2.keepN k4) (Nat.le_refl _) (.slice B1 a.length d1) (.slice B2 r.length d2))
              replace gK := keepN gK k4
              clear bz bz2 k4 r1 r2 HI2 hO1 hO2 bg
              go_wp2
              refine bodyPost_ret (ret_sig rfl rfl (HBZ.out _ _) rfl) rfl ?_
              rw [HD.out]
              exact ⟨_, _, rfl, HP1.out, HP2.out, keep_put2 gK (Nat.le_refl _) _ _⟩
      · have hq : ¬ (((S[k]'hlt).toNat : Int) = 62) := by
          intro e
          exact hc (UInt8.toNat_inj.1 (by rw [hbt] at e; rw [show (62 : UInt8).toNat = 62 from rfl]; omega))
        have hall2 : Hid (∀ c ∈ s.take (k + 1), c ≠ 62) := by
          intro c h
          rw [List.take_succ_eq_append_getElem hks] at h
          rcases List.mem_append.1 h with h | h
          · exact hall.out c h
          · rw [List.mem_singleton.1 h]; exact hc
        clear hc hall hbt
        go_wp2
        go_roundw
        case rel => exact ⟨k + 1, by omega, rfl, hall2, bz, gK⟩
        case measure => show S.size - _ < S.size - _; simp [intOf]; omega
    · obtain hkn : k = s.length := by rw [← HSZ.out]; omega
      have HD : Hid (rdG s = none) := rdG_0 (arr_miss (by have := hall.out; rwa [hkn, List.take_length] at this))
      obtain ⟨z0, z1⟩ := blk2 bz
      have fz := fun i => bz.frozen i
      have HBZ := Lib.hid (fun u v => blk_put2 bz u v)
      clear hall bz hkn
      go_wp2
      refine bodyPost_ret (ret_sig rfl rfl (HBZ.out _ _) rfl) rfl ?_
      exact sgt_none HD.out (keep_put2 gK (Nat.le_refl _) _ _)

end Go.Proofs.YtieejecodfeodaaDoor.S
