/-
  FunctionBegins' walk: at its begin slots fit their types, arguments have what was handed in, all others are zeros; the results of these are zeros of the results' types. Conditions: the function's lists, and the values, lie in memory.
-/
import Derived.Test.YtbnekeomdhljhaaDoorQ7
namespace Go.Proofs.YtbnekeomdhljhaaDoor.F
open Go.RowKit W

theorem shM_skipU {P : Program} {l tl : List Oper} {i : Nat} {gen : Bool} {o : Oper} {a : Act} {Q : Act → World → Prop} {rest : List (Nat × Bool)} {I : World → Prop} (ho : l.drop i = o :: tl) (hw : Region.wanted o (yielded l.toArray a.tmps) = false) (h : Shut (wpM P l.toArray Q rest (a.put o.dst undef) I)) : Shut (wpM P l.toArray Q ((i, gen) :: rest) a I) :=
  ⟨wpM_skip ho hw h.out⟩
theorem begV_at1 {f : Fu} {x : List (Int × Int)} {i : Nat} (h : i < x.length) : (begV f x)[i]? = some x[i] := by unfold begV; rw [List.getElem?_append_left h, List.getElem?_eq_getElem h]
theorem begV_at2 {f : Fu} {x : List (Int × Int)} {i : Nat} (h : x.length ≤ i) (h2 : i < (begV f x).length) : ∃ t, (begV f x)[i]? = some (t, 0) := by
  unfold begV at h2 ⊢
  rw [List.getElem?_append_right h]
  unfold zs at h2 ⊢
  rw [List.length_append, List.length_map] at h2
  rw [List.getElem?_map, List.getElem?_eq_getElem (by omega)]
  exact ⟨_, rfl⟩
theorem ts_zs (l : List Int) : ts (zs l) = l := by unfold ts zs; rw [List.map_map]; exact List.map_id l
theorem okB_zero {t : Int} (h : knownB t = true) : W.okB t 0 = true := by
  rw [known_iff] at h
  unfold W.okB
  rw [decide_eq_true_iff]
  omega
theorem allOk_zs {l : List Int} (h : l.all knownB = true) : allOk (zs l) = true := by
  unfold allOk zs
  rw [List.all_map, List.all_eq_true]
  intro t ht
  exact okB_zero (List.all_eq_true.1 h t ht)
theorem begV_fits {f : Fu} {x : List (Int × Int)} (ho : okF f = true) (h : fitsB f.ar x = true) : fitsB (sl f) (begV f x) = true := by
  obtain ⟨h1, h2⟩ := (fits_true _ _).1 h
  have hl : x.length = f.ar.length := (ts_len h).symm
  refine (fits_true _ _).2 ⟨?_, ?_⟩
  · unfold begV
    have e : ts (x ++ zs ((sl f).drop x.length)) = ts x ++ ts (zs ((sl f).drop x.length)) := by unfold ts; rw [List.map_append]
    rw [e, ts_zs, ← h1, hl]
    unfold sl
    rw [List.append_assoc, List.drop_left' rfl]
  · unfold begV allOk
    rw [List.all_append, Bool.and_eq_true]
    refine ⟨h2, allOk_zs ?_⟩
    rw [List.all_eq_true]
    exact fun t ht => List.all_eq_true.1 (sl_known ho) t (List.mem_of_mem_drop ht)
theorem begV_res {f : Fu} {x : List (Int × Int)} (h : fitsB f.ar x = true) : resV f (begV f x) = zs f.rs := by
  have hl : x.length = f.ar.length := (ts_len h).symm
  unfold resV begV
  rw [← hl, List.drop_left' rfl, hl]
  unfold sl
  rw [List.append_assoc, List.drop_left' rfl]
  unfold zs
  rw [List.map_append, List.take_left' (by rw [List.length_map])]
theorem rs_known {f : Fu} (h : okF f = true) : f.rs.all knownB = true := S.all_known ((S.okG_iff _ _).1 ((okF_iff f).1 h).2.1).2.2

set_option maxRecDepth 100000 in
set_option maxHeartbeats 16000000 in
theorem begins_walk (v : FV) (f : Fu) (X : Option Addr) (x : List (Int × Int)) (c : Nat) (w : World) (h : FnAt w v f) (hx : Rd w X (vvs x)) :
    Calls Tryd.prog 3 #[v.val, .slice X x.length c] w fun e w' => e = .returned (.bool true) ∧ Keep NoB w w' := by
  obtain ⟨m, hm⟩ : ∃ m, x.length = m := ⟨_, rfl⟩
  have HM := Lib.hid hm
  rw [hm]
  have bx := Blk.new w 27 v.cells
  have k0 := (Keep.refl NoB w).alloc (.cells v.cells 27)
  have HF := Lib.hid (h.keepN k0)
  have HX := Lib.hid bx
  have HR := Lib.hid (hx.keepN k0)
  by_cases hs : ¬ SmF v
  · have HG := Lib.hid (fun w => great_yes v w hs)
    obtain ⟨s0, A, na, ca, B, nb, cb, L, nl, cl, D, nd, cd⟩ := v
    unfold FV.val FV.cells at *
    clear bx h hs hx
    go_enter Tryd.func3, Tryd.ntmps3
    go_wp2_with fail
    refine (alive_any _).mono ?_
    rintro e w1 ⟨rfl, k1⟩
    obtain ⟨c0, c1, c2, c3, c4⟩ := blk5 (v := ⟨s0, A, na, ca, B, nb, cb, L, nl, cl, D, nd, cd⟩) (HX.out.keep k1 id)
    dsimp only at c0 c1 c2 c3 c4
    go_wp2_with fail
    refine (HG.out _).mono ?_
    rintro e w2 ⟨rfl, k2⟩
    go_wp2
    go_ret
    exact ⟨rfl, keepN (keepN k0 k1) k2⟩
  replace hs := Classical.not_not.1 hs
  have HG := Lib.hid (fun w => great_no v w hs)
  by_cases hm1 : 100 < m
  · obtain ⟨s0, A, na, ca, B, nb, cb, L, nl, cl, D, nd, cd⟩ := v
    unfold FV.val FV.cells at *
    clear bx h hs hx
    have hq : (100 : Int) < (m : Int) := by omega
    go_enter Tryd.func3, Tryd.ntmps3
    go_wp2_with fail
    refine (alive_any _).mono ?_
    rintro e w1 ⟨rfl, k1⟩
    obtain ⟨c0, c1, c2, c3, c4⟩ := blk5 (v := ⟨s0, A, na, ca, B, nb, cb, L, nl, cl, D, nd, cd⟩) (HX.out.keep k1 id)
    dsimp only at c0 c1 c2 c3 c4
    go_wp2_with fail
    refine (HG.out _).mono ?_
    rintro e w2 ⟨rfl, k2⟩
    go_wp2
    go_ret
    exact ⟨rfl, keepN (keepN k0 k1) k2⟩
  replace hm1 : m ≤ 100 := by omega
  have hq100 : ¬ (100 : Int) < (m : Int) := by omega
  cases ho : okF f
  · obtain ⟨e1, e2⟩ := beg_1 x ho
    have HBg := Lib.hid (fun w1 hk => begin_lit f x [] 70 0 m c X v w1 ⟨HF.out.keepN hk, hs⟩ (HR.out.keepN hk) hm hm1 ⟨e2, e1⟩ rfl)
    have HCk := Lib.hid (fun w1 hk => check_any v f w1 (HF.out.keepN hk) hs 70 (chkF_no ho))
    obtain ⟨s0, A, na, ca, B, nb, cb, L, nl, cl, D, nd, cd⟩ := v
    unfold FV.val FV.cells at *
    clear bx h hs hx ho e1 e2 hm1
    go_enter Tryd.func3, Tryd.ntmps3
    go_wp2_with fail
    refine (alive_any _).mono ?_
    rintro e w1 ⟨rfl, k1⟩
    obtain ⟨c0, c1, c2, c3, c4⟩ := blk5 (v := ⟨s0, A, na, ca, B, nb, cb, L, nl, cl, D, nd, cd⟩) (HX.out.keep k1 id)
    dsimp only at c0 c1 c2 c3 c4
    go_wp2_with fail
    refine (HG.out _).mono ?_
    rintro e w2 ⟨rfl, k2⟩
    replace k1 := keepN k1 k2
    clear c0 c1 c2 c3 c4 k2
    obtain ⟨c0, c1, c2, c3, c4⟩ := blk5 (v := ⟨s0, A, na, ca, B, nb, cb, L, nl, cl, D, nd, cd⟩) (HX.out.keep k1 id)
    dsimp only at c0 c1 c2 c3 c4
    go_wp2_with fail
    refine (HBg.out _ k1).mono ?_
    rintro e w3 ⟨A3, c3', rfl, _, _, k2⟩
    replace k1 := keepN k1 k2
    clear c0 c1 c2 c3 c4 k2
    obtain ⟨c0, c1, c2, c3, c4⟩ := blk5 (v := ⟨s0, A, na, ca, B, nb, cb, L, nl, cl, D, nd, cd⟩) (HX.out.keep k1 id)
    dsimp only at c0 c1 c2 c3 c4
    go_wp2_with fail
    refine (HCk.out _ k1).mono ?_
    rintro e w4 ⟨rfl, k2⟩
    replace k1 := keepN k1 k2
    clear c0 c1 c2 c3 c4 k2
    go_wp2
    go_ret
    exact ⟨rfl, keepN k0 k1⟩
  have HCk := Lib.hid (fun w1 hk => check_any v f w1 (HF.out.keepN hk) hs 0 (chkF_ok ho))
  have HFT := Lib.hid (fun w1 (hk : Keep NoB (w.alloc (.cells v.cells 27)) w1) (R : Bool) hR => fits_any v.A X f.ar x v.na m v.ca c w1 (HF.out.keepN hk).ra (HR.out.keepN hk) h.la hm (by have := hs.na; omega) (by omega) R hR)
  cases hf : fitsB f.ar x
  · obtain ⟨e1, e2⟩ := beg_2 ho hf
    have HBg := Lib.hid (fun w1 hk => begin_lit f x [] 73 0 m c X v w1 ⟨HF.out.keepN hk, hs⟩ (HR.out.keepN hk) hm hm1 ⟨e2, e1⟩ rfl)
    have HFT2 := Lib.hid (fun w1 hk => HFT.out w1 hk false hf.symm)
    obtain ⟨s0, A, na, ca, B, nb, cb, L, nl, cl, D, nd, cd⟩ := v
    unfold FV.val FV.cells at *
    dsimp only at HFT2
    clear bx h hs hx ho e1 e2 hm1 hf HFT
    go_enter Tryd.func3, Tryd.ntmps3
    go_wp2_with fail
    refine (alive_any _).mono ?_
    rintro e w1 ⟨rfl, k1⟩
    obtain ⟨c0, c1, c2, c3, c4⟩ := blk5 (v := ⟨s0, A, na, ca, B, nb, cb, L, nl, cl, D, nd, cd⟩) (HX.out.keep k1 id)
    dsimp only at c0 c1 c2 c3 c4
    go_wp2_with fail
    refine (HG.out _).mono ?_
    rintro e w2 ⟨rfl, k2⟩
    replace k1 := keepN k1 k2
    clear c0 c1 c2 c3 c4 k2
    obtain ⟨c0, c1, c2, c3, c4⟩ := blk5 (v := ⟨s0, A, na, ca, B, nb, cb, L, nl, cl, D, nd, cd⟩) (HX.out.keep k1 id)
    dsimp only at c0 c1 c2 c3 c4
    go_wp2_with fail
    refine (HBg.out _ k1).mono ?_
    rintro e w3 ⟨A3, c3', rfl, _, _, k2⟩
    replace k1 := keepN k1 k2
    clear c0 c1 c2 c3 c4 k2
    obtain ⟨c0, c1, c2, c3, c4⟩ := blk5 (v := ⟨s0, A, na, ca, B, nb, cb, L, nl, cl, D, nd, cd⟩) (HX.out.keep k1 id)
    dsimp only at c0 c1 c2 c3 c4
    go_wp2_with fail
    refine (HCk.out _ k1).mono ?_
    rintro e w4 ⟨rfl, k2⟩
    replace k1 := keepN k1 k2
    clear c0 c1 c2 c3 c4 k2
    obtain ⟨c0, c1, c2, c3, c4⟩ := blk5 (v := ⟨s0, A, na, ca, B, nb, cb, L, nl, cl, D, nd, cd⟩) (HX.out.keep k1 id)
    dsimp only at c0 c1 c2 c3 c4
    go_wp2_with fail
    refine (HFT2.out _ k1).mono ?_
    rintro e w5 ⟨rfl, k2⟩
    replace k1 := keepN k1 k2
    clear c0 c1 c2 c3 c4 k2
    go_wp2
    go_ret
    exact ⟨rfl, keepN k0 k1⟩
  · obtain ⟨e1, e2⟩ := beg_3 ho hf
    obtain ⟨n, hn⟩ : ∃ n, (sl f).length = n := ⟨_, rfl⟩
    have hbl := (begV_len hf).trans hn
    have hn3 : n ≤ 300 ∧ m ≤ n := by
      have e1 := ts_len hf
      rw [hm, h.la] at e1
      rw [← hn, sl_length, h.la, h.lb, h.ll]; have := hs.na; have := hs.nb; have := hs.nl; omega
    have HBg := Lib.hid (fun w1 hk => begin_lit f x (begV f x) 0 n m c X v w1 ⟨HF.out.keepN hk, hs⟩ (HR.out.keepN hk) hm hm1 ⟨e2, e1⟩ hbl)
    have HFb := begV_fits ho hf
    have HRs := Lib.hid (fun A1 c1 w1 (hr : Rd w1 A1 (vvs (begV f x))) (hc : n ≤ c1) hk => results_any v f A1 (begV f x) n c1 w1 (HF.out.keepN hk) hs hr hbl (by omega) hc)
    rw [(res_3 ho HFb).1, (res_3 ho HFb).2, begV_res hf] at HRs
    have hrl : (zs f.rs).length = v.nb := by unfold zs; rw [List.length_map, h.lb]
    rw [hrl] at HRs
    have HZr := Lib.hid (fun w1 hk => zeros_any v.B f.rs v.nb v.cb w1 (HF.out.keepN hk).rb h.lb (by have := hs.nb; omega))
    have HKn := Lib.hid (rs_known ho)
    have HSl := Lib.hid (fun w1 hk => slots_lit f (sl f) n v w1 ⟨HF.out.keepN hk, hs⟩ (slF_ok ho) hn)
    have HF3 := Lib.hid (fun A1 A2 c1 c2 w1 hr hl => fits_any A1 A2 (sl f) (begV f x) n n c1 c2 w1 hr hl hn hbl (by omega) (by omega) true HFb.symm)
    have HSm := Lib.hid (fun A1 A2 c1 c2 w1 h1 h2 => W.same_any A1 A2 (zs f.rs) (zs f.rs) v.nb v.nb c1 c2 w1 h1 h2 hrl hrl (by have := hs.nb; omega) (by have := hs.nb; omega) true (show _ = _ by simp))
    have HL1 := Lib.hid (fun i (hi : i < m) => begV_at1 (f := f) (x := x) (i := i) (by rw [hm]; exact hi))
    have HL2 := Lib.hid (fun i (h1 : m ≤ i) (h2 : i < n) => begV_at2 (f := f) (x := x) (i := i) (by rw [hm]; exact h1) (by rw [hbl]; exact h2))
    have HBL := Lib.hid hbl
    obtain ⟨s0, A, na, ca, B, nb, cb, L, nl, cl, D, nd, cd⟩ := v
    unfold FV.val FV.cells at *
    dsimp only at HZr HRs HSm
    clear bx h hs hx ho e1 e2 hf HFT hn hbl HFb hrl HCk
    go_enter Tryd.func3, Tryd.ntmps3
    go_wp2_with fail
    refine (alive_any _).mono ?_
    rintro e w1 ⟨rfl, k1⟩
    obtain ⟨c0, c1, c2, c3, c4⟩ := blk5 (v := ⟨s0, A, na, ca, B, nb, cb, L, nl, cl, D, nd, cd⟩) (HX.out.keep k1 id)
    dsimp only at c0 c1 c2 c3 c4
    go_wp2_with fail
    refine (HG.out _).mono ?_
    rintro e w2 ⟨rfl, k2⟩
    replace k1 := keepN k1 k2
    clear c0 c1 c2 c3 c4 k2
    obtain ⟨c0, c1, c2, c3, c4⟩ := blk5 (v := ⟨s0, A, na, ca, B, nb, cb, L, nl, cl, D, nd, cd⟩) (HX.out.keep k1 id)
    dsimp only at c0 c1 c2 c3 c4
    go_wp2_with fail
    refine (HBg.out _ k1).mono ?_
    rintro e w3 ⟨A3, c3', rfl, hc3, r3, k2⟩
    replace k1 := keepN k1 k2
    clear c0 c1 c2 c3 c4 k2
    obtain ⟨c0, c1, c2, c3, c4⟩ := blk5 (v := ⟨s0, A, na, ca, B, nb, cb, L, nl, cl, D, nd, cd⟩) (HX.out.keep k1 id)
    dsimp only at c0 c1 c2 c3 c4
    go_wp2_with fail
    refine (HRs.out _ _ _ r3 hc3 k1).mono ?_
    rintro e w4 ⟨u4, rfl, hO4, k2⟩
    obtain ⟨A4, c4', rfl, _, _, r4, _⟩ := hO4.form
    replace k1 := keepN k1 k2
    replace r3 := r3.keepN k2
    clear c0 c1 c2 c3 c4 k2 hO4
    obtain ⟨c0, c1, c2, c3, c4⟩ := blk5 (v := ⟨s0, A, na, ca, B, nb, cb, L, nl, cl, D, nd, cd⟩) (HX.out.keep k1 id)
    dsimp only at c0 c1 c2 c3 c4
    go_wp2_with fail
    refine (HZr.out _ k1).mono ?_
    rintro e w5 ⟨k2, hz⟩
    have hz2 : ∃ Z zc, e = .returned (.tuple #[.slice Z nb zc, .int .i64 0]) ∧ Own w5 39 2 (Fresh w4) (.slice Z nb zc) nb (vvs (zs f.rs)) := by
      rcases hz with ⟨_, h⟩ | ⟨hno, _⟩
      · exact h
      · rw [HKn.out] at hno; cases hno
    obtain ⟨Z, zc, rfl, hO5⟩ := hz2
    obtain ⟨A5, c5', e5, _, _, r5, _⟩ := hO5.form
    injection e5 with e5a e5b e5c
    subst e5a e5c
    replace k1 := keepN k1 k2
    replace r3 := r3.keepN k2
    replace r4 := r4.keepN k2
    clear c0 c1 c2 c3 c4 k2 hO5 hz e5b HZr HRs HBg HG
    have HR3 := Lib.hid r3
    have HR4 := Lib.hid r4
    have HR5 := Lib.hid r5
    have HK1 := Lib.hid k1
    clear r3 r4 r5 k1
    go_wp2
    go_loopw [70] (fun i wr => ∃ k : Nat, k ≤ n ∧ i = .int .i64 (k : Int) ∧ Keep NoB w5 wr) (fun i _ => n - (intOf i).toNat)
    case atStart => exact ⟨0, Nat.zero_le _, rfl, Keep.refl _ _⟩
    case round =>
      obtain ⟨k, hk, rfl, hK⟩ := hrel
      by_cases hlt : k < n
      · obtain ⟨g, off, rfl, hc⟩ := rdV_at (HR3.out.keepN hK) (by rw [HBL.out]; omega)
        obtain ⟨ck0, ck1⟩ := hc k (by rw [HBL.out]; exact hlt)
        by_cases hkm : k < m
        · have hv := HL1.out k hkm
          obtain ⟨hkl, ev⟩ := List.getElem?_eq_some_iff.1 hv
          rw [ev] at ck0 ck1
          obtain ⟨gx, ox, rfl, hcx⟩ := rdV_at ((HR.out.keepN HK1.out).keepN hK) (by rw [HM.out]; omega)
          obtain ⟨cx0, cx1⟩ := hcx k (by rw [HM.out]; exact hkm)
          have hv0 : wr.cell? ⟨g, off + k * 2, none⟩ = some (.int .i64 (x[k]'(by rw [HM.out]; exact hkm)).1) := ck0
          clear hc hcx hv ev hkl ck0
          generalize x[k]'(by rw [HM.out]; exact hkm) = y at *
          obtain ⟨y0, y1⟩ := y
          dsimp only at hv0 ck1 cx0 cx1
          have hA := (Keep.refl NoB wr).alloc (.cells #[.int .i64 y0, .int .i64 y1] 39)
          have bl := Blk.new wr 39 #[.int .i64 y0, .int .i64 y1]
          have a0 : (wr.alloc (.cells #[.int .i64 y0, .int .i64 y1] 39)).cell? ⟨wr.heap.size, 0, none⟩ = some (.int .i64 y0) := bl.cell 0
          have a1 : (wr.alloc (.cells #[.int .i64 y0, .int .i64 y1] 39)).cell? ⟨wr.heap.size, 1, none⟩ = some (.int .i64 y1) := bl.cell 1
          have cxa0 := hA.cell cx0 id
          have cxa1 := hA.cell cx1 id
          have HK9 := Lib.hid (keepN hK hA)
          have dk := (decide_eq_true (show (k : Int) < (m : Int) by omega))
          have dk2 := (decide_eq_false (show ¬ (m : Int) ≤ (k : Int) by omega))
          have dk3 : ¬ (m : Int) ≤ (k : Int) := by omega
          have dk5 : decide (m ≤ k) = false := decide_eq_false (by omega)
          have dk6 : ¬ m ≤ k := by omega
          have dk4 : (k : Int) < (m : Int) := by omega
          clear hA bl hK cx0 cx1
          generalize hwz : wr.alloc (.cells #[.int .i64 y0, .int .i64 y1] 39) = wz at a0 a1 cxa0 cxa1 HK9
          go_wp2
          clear hwz
          refine wp_region_sh ((0, false) :: (1, false) :: (2, false) :: (3, false) :: (4, false) :: (5, false) :: (6, false) :: (7, false) :: (8, false) :: (9, false) :: (10, false) :: (11, false) :: (12, false) :: (13, false) :: (14, false) :: (15, false) :: (16, false) :: (17, false) :: (18, false) :: (19, false) :: (20, false) :: (21, false) :: (22, false) :: []) (fun w' => Keep NoB wz w') (by kernel_rfl) (by kernel_rfl) (by rfl) (by kernel_rfl) (stable_keep wz) (Keep.refl NoB wz).drew ?_
          refine shM_step rfl rfl rfl (by rfl) (by rfl) ?_
          apply Exists.intro
          refine ⟨fun z K hK => ?_, ?_, ?_⟩
          · go_big_quiet_op
            exact hK _ rfl
          · kernel_rfl
          refine shM_step rfl rfl rfl (by rfl) (by rfl) ?_
          apply Exists.intro
          refine ⟨fun z K hK => ?_, ?_, ?_⟩
          · go_big_quiet_op
            exact hK _ rfl
          · kernel_rfl
          refine shM_step rfl rfl rfl (by rfl) (by rfl) ?_
          apply Exists.intro
          refine ⟨fun z K hK => ?_, ?_, ?_⟩
          · go_big_quiet_op
            exact hK _ rfl
          · kernel_rfl
          refine shM_step rfl rfl rfl (by rfl) (by rfl) ?_
          apply Exists.intro
          refine ⟨fun z K hK => ?_, ?_, ?_⟩
          · go_big_quiet_op
            exact hK _ rfl
          · kernel_rfl
          refine shM_step rfl rfl rfl (by rfl) (by rfl) ?_
          apply Exists.intro
          refine ⟨fun z K hK => ?_, ?_, ?_⟩
          · go_big_quiet_op
            exact hK _ rfl
          · kernel_rfl
          refine shM_step rfl rfl rfl (by rfl) (by rfl) ?_
          apply Exists.intro
          refine ⟨fun z K hK => ?_, ?_, ?_⟩
          · have e0 : ∀ y : KW z.w, y.w.cell? ⟨wr.heap.size, 0, none⟩ = some (.int .i64 y0) := fun y => Keep.cell (keepN z.has y.keep) a0 id
            have e1 : ∀ y : KW z.w, y.w.cell? ⟨wr.heap.size, 1, none⟩ = some (.int .i64 y1) := fun y => Keep.cell (keepN z.has y.keep) a1 id
            go_big_quiet_op
            exact hK _ rfl
          · kernel_rfl
          refine shM_step rfl rfl rfl (by rfl) (by rfl) ?_
          apply Exists.intro
          refine ⟨fun z K hK => ?_, ?_, ?_⟩
          · go_big_quiet_op
            exact hK _ rfl
          · kernel_rfl
          refine shM_step rfl rfl rfl (by rfl) (by rfl) ?_
          apply Exists.intro
          refine ⟨fun z K hK => ?_, ?_, ?_⟩
          · go_big_quiet_op
            exact hK _ rfl
          · kernel_rfl
          refine shM_step rfl rfl rfl (by rfl) (by rfl) ?_
          apply Exists.intro
          refine ⟨fun z K hK => ?_, ?_, ?_⟩
          · go_big_quiet_op
            exact hK _ rfl
          · kernel_rfl
          refine shM_step rfl rfl rfl (by rfl) (by rfl) ?_
          apply Exists.intro
          refine ⟨fun z K hK => ?_, ?_, ?_⟩
          · have g0 : ∀ y : KW z.w, y.w.cell? ⟨gx, ox + k * 2, none⟩ = some (.int .i64 y0) := fun y => Keep.cell (keepN z.has y.keep) cxa0 id
            have g1 : ∀ y : KW z.w, y.w.cell? ⟨gx, ox + k * 2 + 1, none⟩ = some (.int .i64 y1) := fun y => Keep.cell (keepN z.has y.keep) cxa1 id
            go_big_quiet_op
            exact hK _ rfl
          · kernel_rfl
          refine shM_step rfl rfl rfl (by rfl) (by rfl) ?_
          apply Exists.intro
          refine ⟨fun z K hK => ?_, ?_, ?_⟩
          · go_big_quiet_op
            exact hK _ rfl
          · kernel_rfl
          refine shM_step rfl rfl rfl (by rfl) (by rfl) ?_
          apply Exists.intro
          refine ⟨fun z K hK => ?_, ?_, ?_⟩
          · go_big_quiet_op
            exact hK _ rfl
          · kernel_rfl
          refine shM_step rfl rfl rfl (by rfl) (by rfl) ?_
          apply Exists.intro
          refine ⟨fun z K hK => ?_, ?_, ?_⟩
          · go_big_quiet_op
            exact hK _ rfl
          · kernel_rfl
          refine shM_step rfl rfl rfl (by rfl) (by rfl) ?_
          apply Exists.intro
          refine ⟨fun z K hK => ?_, ?_, ?_⟩
          · go_big_quiet_op
            exact hK _ rfl
          · kernel_rfl
          refine shM_step rfl rfl rfl (by rfl) (by rfl) ?_
          apply Exists.intro
          refine ⟨fun z K hK => ?_, ?_, ?_⟩
          · go_big_quiet_op
            exact hK _ rfl
          · kernel_rfl
          refine shM_step rfl rfl rfl (by rfl) (by rfl) ?_
          apply Exists.intro
          refine ⟨fun z K hK => ?_, ?_, ?_⟩
          · go_big_quiet_op
            exact hK _ rfl
          · kernel_rfl
          refine shM_step rfl rfl rfl (by rfl) (by rfl) ?_
          apply Exists.intro
          refine ⟨fun z K hK => ?_, ?_, ?_⟩
          · go_big_quiet_op
            exact hK _ rfl
          · kernel_rfl
          refine shM_step rfl rfl rfl (by rfl) (by rfl) ?_
          apply Exists.intro
          refine ⟨fun z K hK => ?_, ?_, ?_⟩
          · go_big_quiet_op
            exact hK _ rfl
          · kernel_rfl
          refine shM_skipU rfl (by kernel_rfl) ?_
          simp only [Act.put, List.setIfInBounds_toArray, List.set_cons_zero, List.set_cons_succ]
          refine shM_skipU rfl (by kernel_rfl) ?_
          simp only [Act.put, List.setIfInBounds_toArray, List.set_cons_zero, List.set_cons_succ]
          refine shM_skipU rfl (by kernel_rfl) ?_
          simp only [Act.put, List.setIfInBounds_toArray, List.set_cons_zero, List.set_cons_succ]
          refine shM_step rfl rfl rfl (by rfl) (by rfl) ?_
          apply Exists.intro
          refine ⟨fun z K hK => ?_, ?_, ?_⟩
          · go_big_quiet_op
            exact hK _ rfl
          · kernel_rfl
          refine shM_step rfl rfl rfl (by rfl) (by rfl) ?_
          apply Exists.intro
          refine ⟨fun z K hK => ?_, ?_, ?_⟩
          · go_big_quiet_op
            exact hK _ rfl
          · kernel_rfl
          refine shM_nil (fun z => ?_)
          have hz := z.has
          generalize z.w = w9 at hz ⊢
          go_wp2
          go_roundw
          case rel => exact ⟨k + 1, by omega, by go_num, keepN HK9.out hz⟩
          case measure => simp [intOf]; omega
        · obtain ⟨t, hv⟩ := HL2.out k (by omega) hlt
          obtain ⟨hkl, ev⟩ := List.getElem?_eq_some_iff.1 hv
          rw [ev] at ck0 ck1
          dsimp only at ck0 ck1
          have hA := (Keep.refl NoB wr).alloc (.cells #[.int .i64 t, .int .i64 0] 39)
          have bl := Blk.new wr 39 #[.int .i64 t, .int .i64 0]
          have a0 : (wr.alloc (.cells #[.int .i64 t, .int .i64 0] 39)).cell? ⟨wr.heap.size, 0, none⟩ = some (.int .i64 t) := bl.cell 0
          have a1 : (wr.alloc (.cells #[.int .i64 t, .int .i64 0] 39)).cell? ⟨wr.heap.size, 1, none⟩ = some (.int .i64 0) := bl.cell 1
          have HK9 := Lib.hid (keepN hK hA)
          have dk := (decide_eq_false (show ¬ (k : Int) < (m : Int) by omega))
          have dk2 := (decide_eq_true (show (m : Int) ≤ (k : Int) by omega))
          have dk3 : (m : Int) ≤ (k : Int) := by omega
          have dk4 : ¬ (k : Int) < (m : Int) := by omega
          clear hA bl hK hc hv hkl ev
          go_wp2
          generalize wr.alloc (.cells #[.int .i64 t, .int .i64 0] 39) = wz at a0 a1 HK9 ⊢
          refine wp_region_sh ((0, false) :: (1, false) :: (2, false) :: (3, false) :: (4, false) :: (5, false) :: (6, false) :: (7, false) :: (8, false) :: (9, false) :: (10, false) :: (11, false) :: (12, false) :: (13, false) :: (14, false) :: (15, false) :: (16, false) :: (17, false) :: (18, false) :: (19, false) :: (20, false) :: (21, false) :: (22, false) :: []) (fun w' => Keep NoB wz w') (by kernel_rfl) (by kernel_rfl) (by rfl) (by kernel_rfl) (stable_keep wz) (Keep.refl NoB wz).drew ?_
          refine shM_step rfl rfl rfl (by rfl) (by rfl) ?_
          apply Exists.intro
          refine ⟨fun z K hK => ?_, ?_, ?_⟩
          · go_big_quiet_op
            exact hK _ rfl
          · kernel_rfl
          refine shM_step rfl rfl rfl (by rfl) (by rfl) ?_
          apply Exists.intro
          refine ⟨fun z K hK => ?_, ?_, ?_⟩
          · go_big_quiet_op
            exact hK _ rfl
          · kernel_rfl
          refine shM_step rfl rfl rfl (by rfl) (by rfl) ?_
          apply Exists.intro
          refine ⟨fun z K hK => ?_, ?_, ?_⟩
          · go_big_quiet_op
            exact hK _ rfl
          · kernel_rfl
          refine shM_step rfl rfl rfl (by rfl) (by rfl) ?_
          apply Exists.intro
          refine ⟨fun z K hK => ?_, ?_, ?_⟩
          · go_big_quiet_op
            exact hK _ rfl
          · kernel_rfl
          refine shM_step rfl rfl rfl (by rfl) (by rfl) ?_
          apply Exists.intro
          refine ⟨fun z K hK => ?_, ?_, ?_⟩
          · go_big_quiet_op
            exact hK _ rfl
          · kernel_rfl
          refine shM_skipU rfl (by kernel_rfl) ?_
          simp only [Act.put, List.setIfInBounds_toArray, List.set_cons_zero, List.set_cons_succ]
          refine shM_skipU rfl (by kernel_rfl) ?_
          simp only [Act.put, List.setIfInBounds_toArray, List.set_cons_zero, List.set_cons_succ]
          refine shM_skipU rfl (by kernel_rfl) ?_
          simp only [Act.put, List.setIfInBounds_toArray, List.set_cons_zero, List.set_cons_succ]
          refine shM_skipU rfl (by kernel_rfl) ?_
          simp only [Act.put, List.setIfInBounds_toArray, List.set_cons_zero, List.set_cons_succ]
          refine shM_skipU rfl (by kernel_rfl) ?_
          simp only [Act.put, List.setIfInBounds_toArray, List.set_cons_zero, List.set_cons_succ]
          refine shM_skipU rfl (by kernel_rfl) ?_
          simp only [Act.put, List.setIfInBounds_toArray, List.set_cons_zero, List.set_cons_succ]
          refine shM_step rfl rfl rfl (by rfl) (by rfl) ?_
          apply Exists.intro
          refine ⟨fun z K hK => ?_, ?_, ?_⟩
          · go_big_quiet_op
            exact hK _ rfl
          · kernel_rfl
          refine shM_step rfl rfl rfl (by rfl) (by rfl) ?_
          apply Exists.intro
          refine ⟨fun z K hK => ?_, ?_, ?_⟩
          · go_big_quiet_op
            exact hK _ rfl
          · kernel_rfl
          refine shM_step rfl rfl rfl (by rfl) (by rfl) ?_
          apply Exists.intro
          refine ⟨fun z K hK => ?_, ?_, ?_⟩
          · go_big_quiet_op
            exact hK _ rfl
          · kernel_rfl
          refine shM_step rfl rfl rfl (by rfl) (by rfl) ?_
          apply Exists.intro
          refine ⟨fun z K hK => ?_, ?_, ?_⟩
          · go_big_quiet_op
            exact hK _ rfl
          · kernel_rfl
          refine shM_step rfl rfl rfl (by rfl) (by rfl) ?_
          apply Exists.intro
          refine ⟨fun z K hK => ?_, ?_, ?_⟩
          · go_big_quiet_op
            exact hK _ rfl
          · kernel_rfl
          refine shM_step rfl rfl rfl (by rfl) (by rfl) ?_
          apply Exists.intro
          refine ⟨fun z K hK => ?_, ?_, ?_⟩
          · go_big_quiet_op
            exact hK _ rfl
          · kernel_rfl
          refine shM_step rfl rfl rfl (by rfl) (by rfl) ?_
          apply Exists.intro
          refine ⟨fun z K hK => ?_, ?_, ?_⟩
          · go_big_quiet_op
            exact hK _ rfl
          · kernel_rfl
          refine shM_step rfl rfl rfl (by rfl) (by rfl) ?_
          apply Exists.intro
          refine ⟨fun z K hK => ?_, ?_, ?_⟩
          · go_big_quiet_op
            exact hK _ rfl
          · kernel_rfl
          refine shM_step rfl rfl rfl (by rfl) (by rfl) ?_
          apply Exists.intro
          refine ⟨fun z K hK => ?_, ?_, ?_⟩
          · have e1 : ∀ y : KW z.w, y.w.cell? ⟨wr.heap.size, 1, none⟩ = some (.int .i64 0) := fun y => Keep.cell (keepN z.has y.keep) a1 id
            go_big_quiet_op
            exact hK _ rfl
          · kernel_rfl
          refine shM_step rfl rfl rfl (by rfl) (by rfl) ?_
          apply Exists.intro
          refine ⟨fun z K hK => ?_, ?_, ?_⟩
          · go_big_quiet_op
            exact hK _ rfl
          · kernel_rfl
          refine shM_step rfl rfl rfl (by rfl) (by rfl) ?_
          apply Exists.intro
          refine ⟨fun z K hK => ?_, ?_, ?_⟩
          · go_big_quiet_op
            exact hK _ rfl
          · kernel_rfl
          refine shM_step rfl rfl rfl (by rfl) (by rfl) ?_
          apply Exists.intro
          refine ⟨fun z K hK => ?_, ?_, ?_⟩
          · go_big_quiet_op
            exact hK _ rfl
          · kernel_rfl
          refine shM_nil (fun z => ?_)
          have hz := z.has
          generalize z.w = w9 at hz ⊢
          go_wp2
          go_roundw
          case rel => exact ⟨k + 1, by omega, by go_num, keepN HK9.out hz⟩
          case measure => simp [intOf]; omega
      · obtain rfl : k = n := by omega
        have k1 := keepN HK1.out hK
        obtain ⟨c0, c1, c2, c3, c4⟩ := blk5 (v := ⟨s0, A, na, ca, B, nb, cb, L, nl, cl, D, nd, cd⟩) (HX.out.keep k1 id)
        dsimp only at c0 c1 c2 c3 c4
        go_wp2_with fail
        refine (HSl.out _ k1).mono ?_
        rintro e w6 ⟨A6, c6, rfl, r6, k2⟩
        clear c0 c1 c2 c3 c4
        have HK2 := Lib.hid (keepN hK k2)
        clear hK k2
        go_wp2_with fail
        refine (HF3.out _ _ _ _ _ r6 (HR3.out.keepN HK2.out)).mono ?_
        rintro e w7 ⟨rfl, k3⟩
        have HK3 := Lib.hid (keepN HK2.out k3)
        clear k3 r6 k1
        go_wp2_with fail
        refine (HSm.out _ _ _ _ _ (HR4.out.keepN HK3.out) (HR5.out.keepN HK3.out)).mono ?_
        rintro e w8 ⟨rfl, k4⟩
        have HK4 := Lib.hid (keepN (keepN k0 HK1.out) (keepN HK3.out k4))
        clear k4
        go_wp2
        go_ret
        exact ⟨rfl, HK4.out⟩

end Go.Proofs.YtbnekeomdhljhaaDoor.F
