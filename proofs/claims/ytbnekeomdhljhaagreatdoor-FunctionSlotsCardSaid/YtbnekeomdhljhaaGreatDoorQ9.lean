/-
  A function's slots' values at its begin, and a call's results: what Begin and Results answer. Conditions: the function's lists, and the values, lie in memory, and are no longer than statements go through.
  What the document's Fits answers. Conditions: the lists lie in memory.
  The document's Slots, Slot, Pointers, Begin and Results of layer function. Conditions: the function's lists, and the values, lie in memory, and are no longer than statements go through.
  The document's Pointers, Begin and Results of layer function. Conditions: the function's lists, and the values, lie in memory, and are no longer than statements go through.
  The document's Results of layer function. Conditions: the function's lists, and the values, lie in memory, and are no longer than statements go through.
  What a slot is: what Slot answers. Conditions: the function's lists lie in memory, and are no longer than statements go through; the number fits an int64.
-/
import Derived.Test.YtbnekeomdhljhaaGreatDoorQ8
import Derived.Test.YtbnekeomdhljhaaGreatDoorQ6
namespace Go.Proofs.YtbnekeomdhljhaaGreatDoor.F
open Go.RowKit W

theorem sl_known {f : Fu} (h : okF f = true) : (sl f).all knownB = true := by
  obtain ⟨_, hg, hl, _⟩ := (okF_iff f).1 h
  obtain ⟨_, ha, hr⟩ := (S.okG_iff _ _).1 hg
  unfold sl
  rw [List.all_append, List.all_append, ha, S.all_known hr, hl]; rfl
/-- Values at the begin; a call's results. -/
def begV (f : Fu) (x : List (Int × Int)) : List (Int × Int) := x ++ zs ((sl f).drop x.length)
def resV (f : Fu) (x : List (Int × Int)) : List (Int × Int) := (x.drop f.ar.length).take f.rs.length
def begE (f : Fu) (x : List (Int × Int)) : Int := if okF f = true then (if fitsB f.ar x = true then 0 else 73) else 70
def begL (f : Fu) (x : List (Int × Int)) : List (Int × Int) := if okF f = true ∧ fitsB f.ar x = true then begV f x else []
def resE (f : Fu) (x : List (Int × Int)) : Int := if okF f = true then (if fitsB (sl f) x = true then 0 else 72) else 70
def resL (f : Fu) (x : List (Int × Int)) : List (Int × Int) := if okF f = true ∧ fitsB (sl f) x = true then resV f x else []
theorem beg_1 {f : Fu} (x : List (Int × Int)) (h : okF f = false) : begE f x = 70 ∧ begL f x = [] := ⟨if_neg (by rw [h]; decide), if_neg (by rw [h]; simp)⟩
theorem beg_2 {f : Fu} {x : List (Int × Int)} (h : okF f = true) (h2 : fitsB f.ar x = false) : begE f x = 73 ∧ begL f x = [] := ⟨by unfold begE; rw [if_pos h, if_neg (by rw [h2]; decide)], if_neg (by rw [h2]; simp)⟩
theorem beg_3 {f : Fu} {x : List (Int × Int)} (h : okF f = true) (h2 : fitsB f.ar x = true) : begE f x = 0 ∧ begL f x = begV f x := ⟨by unfold begE; rw [if_pos h, if_pos h2], if_pos ⟨h, h2⟩⟩
theorem res_1 {f : Fu} (x : List (Int × Int)) (h : okF f = false) : resE f x = 70 ∧ resL f x = [] := ⟨if_neg (by rw [h]; decide), if_neg (by rw [h]; simp)⟩
theorem res_2 {f : Fu} {x : List (Int × Int)} (h : okF f = true) (h2 : fitsB (sl f) x = false) : resE f x = 72 ∧ resL f x = [] := ⟨by unfold resE; rw [if_pos h, if_neg (by rw [h2]; decide)], if_neg (by rw [h2]; simp)⟩
theorem res_3 {f : Fu} {x : List (Int × Int)} (h : okF f = true) (h2 : fitsB (sl f) x = true) : resE f x = 0 ∧ resL f x = resV f x := ⟨by unfold resE; rw [if_pos h, if_pos h2], if_pos ⟨h, h2⟩⟩
theorem vvs_drop (l : List (Int × Int)) (k : Nat) : (vvs l).drop (k * 2) = vvs (l.drop k) := by
  induction l generalizing k with
  | nil => simp [vvs]
  | cons x l ih =>
    cases k with
    | zero => simp
    | succ k => rw [vvs_cons, show (k + 1) * 2 = k * 2 + 2 by omega, List.drop_succ_cons]; exact ih k
theorem vvs_take (l : List (Int × Int)) (k : Nat) : (vvs l).take (k * 2) = vvs (l.take k) := by
  induction l generalizing k with
  | nil => simp [vvs]
  | cons x l ih =>
    cases k with
    | zero => simp [vvs]
    | succ k => rw [vvs_cons, show (k + 1) * 2 = k * 2 + 2 by omega, List.take_succ_cons, vvs_cons]; exact congrArg _ (congrArg _ (ih k))
theorem zs_drop (l : List Int) (k : Nat) : (zs l).drop k = zs (l.drop k) := by unfold zs; rw [List.map_drop]
theorem begV_cells (f : Fu) (x : List (Int × Int)) : vvs x ++ (vvs (zs (sl f))).drop (vvs x).length = vvs (begV f x) := by
  unfold begV
  rw [vvs_length, vvs_drop, zs_drop, vvs_append]
theorem ts_len {l : List Int} {x : List (Int × Int)} (h : fitsB l x = true) : l.length = x.length := by
  have := ((fits_true l x).1 h).1
  rw [this]; simp [ts]
theorem begV_len {f : Fu} {x : List (Int × Int)} (h : fitsB f.ar x = true) : (begV f x).length = (sl f).length := by
  have := ts_len h
  unfold begV zs
  rw [List.length_append, List.length_map, List.length_drop, sl_length]; omega
theorem resV_len {f : Fu} {x : List (Int × Int)} (h : fitsB (sl f) x = true) : (resV f x).length = f.rs.length := by
  have := ts_len h
  rw [sl_length] at this
  unfold resV
  rw [List.length_take, List.length_drop]; omega
/-- Values' list lies where another's tail does. -/
theorem rd_part {w : World} {g off a b : Nat} {x : List (Int × Int)} (h : Rd w (some ⟨g, off, none⟩) (vvs x)) (hab : a + b ≤ x.length) : Rd w (some ⟨g, off + a * 2, none⟩) (vvs ((x.drop a).take b)) := fun h0 => by
  refine ⟨_, _, rfl, fun j u hu => ?_⟩
  have hx : 0 < (vvs x).length := by
    rw [vvs_length] at h0 ⊢
    rw [List.length_take, List.length_drop] at h0; omega
  obtain ⟨g', o', e, hc⟩ := h hx
  injection e with e; injection e with e1 e2; subst e1 e2
  rw [← vvs_take, ← vvs_drop] at hu
  have hj : j < b * 2 := by
    rcases Nat.lt_or_ge j (b * 2) with h | h
    · exact h
    · rw [List.getElem?_eq_none (by rw [List.length_take]; omega)] at hu; cases hu
  rw [List.getElem?_take, if_pos hj, List.getElem?_drop] at hu
  have := hc _ _ hu
  rwa [Nat.add_assoc]

set_option maxRecDepth 100000 in
set_option maxHeartbeats 8000000 in
theorem begin_any (v : FV) (f : Fu) (X : Option Addr) (x : List (Int × Int)) (m c : Nat) (w : World) (h : FnAt w v f) (hs : SmF v) (hx : Rd w X (vvs x)) (hm : Hid (x.length = m)) (hm1 : m ≤ 100) :
    Calls Tryz.prog 26 #[v.val, .slice X m c] w fun e w' => ∃ u, e = .returned (.tuple #[u, .int .i64 (begE f x)]) ∧ Own w' 68 2 (Fresh w) u (begL f x).length (vvs (begL f x)) ∧ Keep NoB w w' := by
  have bx := Blk.new w 27 v.cells
  have k0 := (Keep.refl NoB w).alloc (.cells v.cells 27)
  have HF := Lib.hid (h.keepN k0)
  have HX := Lib.hid bx
  have HR := Lib.hid (hx.keepN k0)
  cases ho : okF f
  · have HC := Lib.hid (check_any v f _ HF.out hs 70 (chkF_no ho))
    obtain ⟨e1, e2⟩ := beg_1 x ho
    rw [e1, e2]
    obtain ⟨S, A, na, ca, B, nb, cb, L, nl, cl, D, nd, cd⟩ := v
    unfold FV.val FV.cells at *
    clear bx h hs ho e1 e2 hx
    go_enter Tryz.func26, Tryz.ntmps26
    go_wp2_with fail
    refine HC.out.mono ?_
    rintro e w1 ⟨rfl, k1⟩
    go_wp2
    go_ret2
    exact ⟨_, rfl, Own.nil _ _ _ _, keepN k0 k1⟩
  have HC := Lib.hid (check_any v f _ HF.out hs 0 (chkF_ok ho))
  have HFT := Lib.hid (fun w1 (hk : Keep NoB (w.alloc (.cells v.cells 27)) w1) (R : Bool) hR => fits_any v.A X f.ar x v.na m v.ca c w1 (HF.out.keepN hk).ra (HR.out.keepN hk) h.la hm (by have := hs.na; omega) (by omega) R hR)
  cases hf : fitsB f.ar x
  · have HFT2 := Lib.hid (fun w1 hk => HFT.out w1 hk false hf.symm)
    obtain ⟨e1, e2⟩ := beg_2 ho hf
    rw [e1, e2]
    obtain ⟨S, A, na, ca, B, nb, cb, L, nl, cl, D, nd, cd⟩ := v
    unfold FV.val FV.cells at *
    dsimp only at HFT2
    clear bx h hs ho e1 e2 hx HFT hf
    go_enter Tryz.func26, Tryz.ntmps26
    go_wp2_with fail
    refine HC.out.mono ?_
    rintro e w1 ⟨rfl, k1⟩
    obtain ⟨c0, c1, c2, c3, c4⟩ := blk5 (v := ⟨S, A, na, ca, B, nb, cb, L, nl, cl, D, nd, cd⟩) (HX.out.keep k1 id)
    go_wp2_with fail
    refine (HFT2.out _ k1).mono ?_
    rintro e w2 ⟨rfl, k2⟩
    go_wp2
    go_ret2
    exact ⟨_, rfl, Own.nil _ _ _ _, keepN (keepN k0 k1) k2⟩
  · have HFT2 := Lib.hid (fun w1 hk => HFT.out w1 hk true hf.symm)
    have HT := Lib.hid (fun w1 hk => types_any v f w1 (HF.out.keepN hk) hs)
    obtain ⟨n, hn⟩ : ∃ n, (sl f).length = n := ⟨_, rfl⟩
    have hn3 : n ≤ 300 ∧ m ≤ n := by
      have e1 := ts_len hf
      rw [hm.out, h.la] at e1
      rw [← hn, sl_length, h.la, h.lb, h.ll]; have := hs.na; have := hs.nb; have := hs.nl; omega
    have HZ := Lib.hid (fun A c w hr => zeros_any A (sl f) n c w hr hn (by omega))
    have HKn := Lib.hid (sl_known ho)
    have HB := Lib.hid (begV_cells f x)
    have HBL := Lib.hid ((begV_len hf).trans hn)
    obtain ⟨e1, e2⟩ := beg_3 ho hf
    rw [e1, e2]
    rw [hn] at HT
    have HXL : Hid ((vvs x).length = m * 2) := by show _ = _; rw [vvs_length, hm.out]
    have HV1 := Lib.hid (vvs_one x)
    obtain ⟨S, A, na, ca, B, nb, cb, L, nl, cl, D, nd, cd⟩ := v
    unfold FV.val FV.cells at *
    dsimp only at HFT2
    clear bx h hs ho e1 e2 hx HFT hf hn
    go_enter Tryz.func26, Tryz.ntmps26
    go_wp2_with fail
    refine HC.out.mono ?_
    rintro e w1 ⟨rfl, k1⟩
    obtain ⟨c0, c1, c2, c3, c4⟩ := blk5 (v := ⟨S, A, na, ca, B, nb, cb, L, nl, cl, D, nd, cd⟩) (HX.out.keep k1 id)
    go_wp2_with fail
    refine (HFT2.out _ k1).mono ?_
    rintro e w2 ⟨rfl, k2⟩
    replace k2 := keepN k1 k2
    obtain ⟨c0, c1, c2, c3, c4⟩ := blk5 (v := ⟨S, A, na, ca, B, nb, cb, L, nl, cl, D, nd, cd⟩) (HX.out.keep k2 id)
    go_wp2_with fail
    refine (HT.out _ k2).mono ?_
    rintro e w3 ⟨u, rfl, hO3, k3⟩
    obtain ⟨A3, c3', rfl, _, _, hr3, _⟩ := hO3.form
    replace k3 := keepN k2 k3
    clear hO3 c0 c1 c2 c3 c4
    go_wp2_with fail
    refine (HZ.out _ _ _ hr3).mono ?_
    rintro e w4 ⟨k4, hz⟩
    have hz2 : ∃ Z zc, e = .returned (.tuple #[.slice Z n zc, .int .i64 0]) ∧ Own w4 68 2 (Fresh w3) (.slice Z n zc) n (vvs (zs (sl f))) := by
      rcases hz with ⟨_, h⟩ | ⟨hno, _⟩
      · exact h
      · rw [HKn.out] at hno; cases hno
    obtain ⟨Z, zc, rfl, hO4⟩ := hz2
    clear hz
    have hw3 := (keepN k0 k3).size
    replace k4 := keepN k3 k4
    have hX4 := HR.out.keepN k4
    obtain ⟨w5, hcopy, hO5, hk5⟩ := run_copy_own (P := Tryz.prog) 53 53 3 68 2 (by decide) Tryz.underlying53 (by kernel_rfl) (.slice Z n zc) n _ hO4.1 X m c (vvs x) hX4 HXL.out hn3.2 HV1.out
    rw [HB.out] at hO5
    have hO4b := Lib.hid hO4.2
    have HO5 := Lib.hid hO5
    have HK5 := Lib.hid hk5
    have HK4 := Lib.hid (keepN k0 k4)
    clear hO4 hX4 hO5 hk5 k0 k1 k2 k3 k4 hr3
    go_wp2
    go_ret2
    refine ⟨_, rfl, ⟨by rw [HBL.out]; exact HO5.out, fun g e => Nat.le_trans hw3 (hO4b.out g e)⟩, HK4.out.trans HK5.out (fun b e hl => ?_)⟩
    have := hO4b.out b e
    unfold Fresh at this
    omega

set_option maxRecDepth 100000 in
set_option maxHeartbeats 8000000 in
theorem results_any (v : FV) (f : Fu) (X : Option Addr) (x : List (Int × Int)) (m c : Nat) (w : World) (h : FnAt w v f) (hs : SmF v) (hx : Rd w X (vvs x)) (hm : Hid (x.length = m)) (hm1 : m ≤ 1000) (hc : m ≤ c) :
    Calls Tryz.prog 28 #[v.val, .slice X m c] w fun e w' => ∃ u, e = .returned (.tuple #[u, .int .i64 (resE f x)]) ∧ Own w' 68 2 (Fresh w) u (resL f x).length (vvs (resL f x)) ∧ Keep NoB w w' := by
  have bx := Blk.new w 27 v.cells
  have k0 := (Keep.refl NoB w).alloc (.cells v.cells 27)
  have HF := Lib.hid (h.keepN k0)
  have HX := Lib.hid bx
  have HR := Lib.hid (hx.keepN k0)
  cases ho : okF f
  · have HC := Lib.hid (check_any v f _ HF.out hs 70 (chkF_no ho))
    obtain ⟨e1, e2⟩ := res_1 x ho
    rw [e1, e2]
    obtain ⟨S, A, na, ca, B, nb, cb, L, nl, cl, D, nd, cd⟩ := v
    unfold FV.val FV.cells at *
    clear bx h hs ho e1 e2 hx
    go_enter Tryz.func28, Tryz.ntmps28
    go_wp2_with fail
    refine HC.out.mono ?_
    rintro e w1 ⟨rfl, k1⟩
    go_wp2
    go_ret2
    exact ⟨_, rfl, Own.nil _ _ _ _, keepN k0 k1⟩
  have HC := Lib.hid (check_any v f _ HF.out hs 0 (chkF_ok ho))
  have HT := Lib.hid (fun w1 hk => types_any v f w1 (HF.out.keepN hk) hs)
  obtain ⟨n, hn⟩ : ∃ n, (sl f).length = n := ⟨_, rfl⟩
  have hn3 : n ≤ 300 := by rw [← hn, sl_length, h.la, h.lb, h.ll]; have := hs.na; have := hs.nb; have := hs.nl; omega
  have hn4 : n = v.na + v.nb + v.nl := by rw [← hn, sl_length, h.la, h.lb, h.ll]
  have HFT := Lib.hid (fun A cA w1 (hr : Rd w1 A (ivs (sl f))) (hk : Keep NoB (w.alloc (.cells v.cells 27)) w1) (R : Bool) hR => fits_any A X (sl f) x n m cA c w1 hr (HR.out.keepN hk) hn hm (by omega) (by omega) R hR)
  rw [hn] at HT
  have hna := h.la
  have hnb := h.lb
  cases hf : fitsB (sl f) x
  · have HFT2 := Lib.hid (fun A cA w1 hr hk => HFT.out A cA w1 hr hk false hf.symm)
    obtain ⟨e1, e2⟩ := res_2 ho hf
    rw [e1, e2]
    obtain ⟨S, A, na, ca, B, nb, cb, L, nl, cl, D, nd, cd⟩ := v
    unfold FV.val FV.cells at *
    clear bx h hs ho e1 e2 hx HFT hf hn hna hnb hn4
    go_enter Tryz.func28, Tryz.ntmps28
    go_wp2_with fail
    refine HC.out.mono ?_
    rintro e w1 ⟨rfl, k1⟩
    obtain ⟨c0, c1, c2, c3, c4⟩ := blk5 (v := ⟨S, A, na, ca, B, nb, cb, L, nl, cl, D, nd, cd⟩) (HX.out.keep k1 id)
    go_wp2_with fail
    refine (HT.out _ k1).mono ?_
    rintro e w2 ⟨u, rfl, hO2, k2⟩
    obtain ⟨A3, c3', rfl, _, _, hr3, _⟩ := hO2.form
    replace k2 := keepN k1 k2
    clear hO2 c0 c1 c2 c3 c4
    go_wp2_with fail
    refine (HFT2.out _ _ _ hr3 k2).mono ?_
    rintro e w3 ⟨rfl, k3⟩
    go_wp2
    go_ret2
    exact ⟨_, rfl, Own.nil _ _ _ _, keepN (keepN k0 k2) k3⟩
  · have HFT2 := Lib.hid (fun A cA w1 hr hk => HFT.out A cA w1 hr hk true hf.symm)
    obtain ⟨e1, e2⟩ := res_3 ho hf
    rw [e1, e2]
    have hmn : m = n := by rw [← hn, ← hm.out]; exact (ts_len hf).symm
    have HRL : Hid ((resV f x).length = v.nb) := (resV_len hf).trans hnb
    have hv1 := vvs_one (resV f x)
    have HCl := Lib.hid (fun w A c hr => cloneVals_any w A (vvs (resV f x)) v.nb c hr (by rw [vvs_length, HRL.out]) hv1 (by have := hs.nb; omega))
    -- where the results lie
    have HP : Hid (∀ w1, Keep NoB (w.alloc (.cells v.cells 27)) w1 → ∀ g off, X = some ⟨g, off, none⟩ → Rd w1 (some ⟨g, off + v.na * 2, none⟩) (vvs (resV f x))) := fun w1 hk g off e => by
      have hr := HR.out.keepN hk
      rw [e] at hr
      unfold resV
      rw [hna, hnb]
      exact rd_part hr (by rw [hm.out]; omega)
    have HE : Hid (v.nb = 0 → resV f x = []) := fun e => List.length_eq_zero_iff.1 (by rw [HRL.out, e])
    have hb1 := hs.na
    have hb2 := hs.nb
    by_cases h0 : v.na + v.nb = 0
    · obtain ⟨S, A, na, ca, B, nb, cb, L, nl, cl, D, nd, cd⟩ := v
      dsimp only at h0
      obtain rfl : na = 0 := by omega
      obtain rfl : nb = 0 := by omega
      have hre := HE.out rfl
      unfold FV.val FV.cells at *
      rw [hre] at HCl HRL ⊢
      dsimp only at HCl HRL
      clear bx h hs ho e1 e2 hx HFT hf hn hna hnb HP HE hv1 hn4 hmn h0 hre hb1 hb2
      by_cases hc0 : c = 0
      · subst hc0
        rcases X with _ | ad
        · skip
          go_enter Tryz.func28, Tryz.ntmps28
          go_wp2_with fail
          refine HC.out.mono ?_
          rintro e w1 ⟨rfl, k1⟩
          obtain ⟨c0, c1, c2, c3, c4⟩ := blk5 (v := ⟨S, A, 0, ca, B, 0, cb, L, nl, cl, D, nd, cd⟩) (HX.out.keep k1 id)
          go_wp2_with fail
          refine (HT.out _ k1).mono ?_
          rintro e w2 ⟨u, rfl, hO2, k2⟩
          obtain ⟨A3, c3', rfl, _, _, hr3, _⟩ := hO2.form
          replace k2 := keepN k1 k2
          clear hO2 c0 c1 c2 c3 c4
          go_wp2_with fail
          refine (HFT2.out _ _ _ hr3 k2).mono ?_
          rintro e w3 ⟨rfl, k3⟩
          replace k3 := keepN k2 k3
          obtain ⟨c0, c1, c2, c3, c4⟩ := blk5 (v := ⟨S, A, 0, ca, B, 0, cb, L, nl, cl, D, nd, cd⟩) (HX.out.keep k3 id)
          clear hr3
          go_wp2_with fail
          refine (HCl.out _ _ _ (Rd.none_ _ _)).mono ?_
          rintro e w4 ⟨u4, rfl, hO4, k4⟩
          have HO4 := Lib.hid hO4
          have HK4 := Lib.hid (keepN (keepN k0 k3) k4)
          have hz := (keepN k0 k3).size
          clear hO4 k4 c0 c1 c2 c3 c4
          go_wp2
          go_ret2
          exact ⟨_, rfl, (by first | exact HO4.out | (rw [HRL.out]; exact HO4.out) : Own w4 _ _ (Fresh w3) u4 _ _).mono (fun k hf _ => Nat.le_trans hz hf), HK4.out⟩
        · skip
          go_enter Tryz.func28, Tryz.ntmps28
          go_wp2_with fail
          refine HC.out.mono ?_
          rintro e w1 ⟨rfl, k1⟩
          obtain ⟨c0, c1, c2, c3, c4⟩ := blk5 (v := ⟨S, A, 0, ca, B, 0, cb, L, nl, cl, D, nd, cd⟩) (HX.out.keep k1 id)
          go_wp2_with fail
          refine (HT.out _ k1).mono ?_
          rintro e w2 ⟨u, rfl, hO2, k2⟩
          obtain ⟨A3, c3', rfl, _, _, hr3, _⟩ := hO2.form
          replace k2 := keepN k1 k2
          clear hO2 c0 c1 c2 c3 c4
          go_wp2_with fail
          refine (HFT2.out _ _ _ hr3 k2).mono ?_
          rintro e w3 ⟨rfl, k3⟩
          replace k3 := keepN k2 k3
          obtain ⟨c0, c1, c2, c3, c4⟩ := blk5 (v := ⟨S, A, 0, ca, B, 0, cb, L, nl, cl, D, nd, cd⟩) (HX.out.keep k3 id)
          clear hr3
          go_wp2_with fail
          refine (HCl.out _ _ _ (Rd.none_ _ _)).mono ?_
          rintro e w4 ⟨u4, rfl, hO4, k4⟩
          have HO4 := Lib.hid hO4
          have HK4 := Lib.hid (keepN (keepN k0 k3) k4)
          have hz := (keepN k0 k3).size
          clear hO4 k4 c0 c1 c2 c3 c4
          go_wp2
          go_ret2
          exact ⟨_, rfl, (by first | exact HO4.out | (rw [HRL.out]; exact HO4.out) : Own w4 _ _ (Fresh w3) u4 _ _).mono (fun k hf _ => Nat.le_trans hz hf), HK4.out⟩
      · rcases X with _ | ad
        · skip
          go_enter Tryz.func28, Tryz.ntmps28
          go_wp2_with fail
          refine HC.out.mono ?_
          rintro e w1 ⟨rfl, k1⟩
          obtain ⟨c0, c1, c2, c3, c4⟩ := blk5 (v := ⟨S, A, 0, ca, B, 0, cb, L, nl, cl, D, nd, cd⟩) (HX.out.keep k1 id)
          go_wp2_with fail
          refine (HT.out _ k1).mono ?_
          rintro e w2 ⟨u, rfl, hO2, k2⟩
          obtain ⟨A3, c3', rfl, _, _, hr3, _⟩ := hO2.form
          replace k2 := keepN k1 k2
          clear hO2 c0 c1 c2 c3 c4
          go_wp2_with fail
          refine (HFT2.out _ _ _ hr3 k2).mono ?_
          rintro e w3 ⟨rfl, k3⟩
          replace k3 := keepN k2 k3
          obtain ⟨c0, c1, c2, c3, c4⟩ := blk5 (v := ⟨S, A, 0, ca, B, 0, cb, L, nl, cl, D, nd, cd⟩) (HX.out.keep k3 id)
          clear hr3
          go_wp2_with fail
          refine (HCl.out _ _ _ (Rd.none_ _ _)).mono ?_
          rintro e w4 ⟨u4, rfl, hO4, k4⟩
          have HO4 := Lib.hid hO4
          have HK4 := Lib.hid (keepN (keepN k0 k3) k4)
          have hz := (keepN k0 k3).size
          clear hO4 k4 c0 c1 c2 c3 c4
          go_wp2
          go_ret2
          exact ⟨_, rfl, (by first | exact HO4.out | (rw [HRL.out]; exact HO4.out) : Own w4 _ _ (Fresh w3) u4 _ _).mono (fun k hf _ => Nat.le_trans hz hf), HK4.out⟩
        · skip
          go_enter Tryz.func28, Tryz.ntmps28
          go_wp2_with fail
          refine HC.out.mono ?_
          rintro e w1 ⟨rfl, k1⟩
          obtain ⟨c0, c1, c2, c3, c4⟩ := blk5 (v := ⟨S, A, 0, ca, B, 0, cb, L, nl, cl, D, nd, cd⟩) (HX.out.keep k1 id)
          go_wp2_with fail
          refine (HT.out _ k1).mono ?_
          rintro e w2 ⟨u, rfl, hO2, k2⟩
          obtain ⟨A3, c3', rfl, _, _, hr3, _⟩ := hO2.form
          replace k2 := keepN k1 k2
          clear hO2 c0 c1 c2 c3 c4
          go_wp2_with fail
          refine (HFT2.out _ _ _ hr3 k2).mono ?_
          rintro e w3 ⟨rfl, k3⟩
          replace k3 := keepN k2 k3
          obtain ⟨c0, c1, c2, c3, c4⟩ := blk5 (v := ⟨S, A, 0, ca, B, 0, cb, L, nl, cl, D, nd, cd⟩) (HX.out.keep k3 id)
          clear hr3
          go_wp2_with fail
          refine (HCl.out _ _ _ (Rd.none_ _ _)).mono ?_
          rintro e w4 ⟨u4, rfl, hO4, k4⟩
          have HO4 := Lib.hid hO4
          have HK4 := Lib.hid (keepN (keepN k0 k3) k4)
          have hz := (keepN k0 k3).size
          clear hO4 k4 c0 c1 c2 c3 c4
          go_wp2
          go_ret2
          exact ⟨_, rfl, (by first | exact HO4.out | (rw [HRL.out]; exact HO4.out) : Own w4 _ _ (Fresh w3) u4 _ _).mono (fun k hf _ => Nat.le_trans hz hf), HK4.out⟩
    · have hxp : 0 < (vvs x).length := by rw [vvs_length, hm.out]; omega
      obtain ⟨g, off, rfl, _⟩ := HR.out hxp
      have HP2 := Lib.hid (fun w1 hk => HP.out w1 hk g off rfl)
      obtain ⟨S, A, na, ca, B, nb, cb, L, nl, cl, D, nd, cd⟩ := v
      unfold FV.val FV.cells at *
      dsimp only at hn4 HCl HRL HP2 hb1 hb2 HE
      have q1 : na ≤ c := by omega
      have q2 : na + nb ≤ c := by omega
      by_cases hcn : na = c
      · obtain rfl : nb = 0 := by omega
        have hre := HE.out rfl
        rw [hre] at HCl HRL ⊢
        subst hcn
        clear bx h hs ho e1 e2 hx HFT hf hn hna hnb HP HP2 HE hxp hv1 hn4 hmn h0 hre
        go_enter Tryz.func28, Tryz.ntmps28
        go_wp2_with fail
        refine HC.out.mono ?_
        rintro e w1 ⟨rfl, k1⟩
        obtain ⟨c0, c1, c2, c3, c4⟩ := blk5 (v := ⟨S, A, na, ca, B, 0, cb, L, nl, cl, D, nd, cd⟩) (HX.out.keep k1 id)
        go_wp2_with fail
        refine (HT.out _ k1).mono ?_
        rintro e w2 ⟨u, rfl, hO2, k2⟩
        obtain ⟨A3, c3', rfl, _, _, hr3, _⟩ := hO2.form
        replace k2 := keepN k1 k2
        clear hO2 c0 c1 c2 c3 c4
        go_wp2_with fail
        refine (HFT2.out _ _ _ hr3 k2).mono ?_
        rintro e w3 ⟨rfl, k3⟩
        replace k3 := keepN k2 k3
        obtain ⟨c0, c1, c2, c3, c4⟩ := blk5 (v := ⟨S, A, na, ca, B, 0, cb, L, nl, cl, D, nd, cd⟩) (HX.out.keep k3 id)
        clear hr3
        go_wp2_with fail
        refine (HCl.out _ _ _ (Rd.none_ _ _)).mono ?_
        rintro e w4 ⟨u4, rfl, hO4, k4⟩
        have HO4 := Lib.hid hO4
        have HK4 := Lib.hid (keepN (keepN k0 k3) k4)
        have hz := (keepN k0 k3).size
        clear hO4 k4 c0 c1 c2 c3 c4
        go_wp2
        go_ret2
        exact ⟨_, rfl, (by first | exact HO4.out | (rw [HRL.out]; exact HO4.out) : Own w4 _ _ (Fresh w3) u4 _ _).mono (fun k hf _ => Nat.le_trans hz hf), HK4.out⟩
      · have q3 : na < c := by omega
        clear bx h hs ho e1 e2 hx HFT hf hn hna hnb HP HE hxp hv1 hn4 hmn h0
        go_enter Tryz.func28, Tryz.ntmps28
        go_wp2_with fail
        refine HC.out.mono ?_
        rintro e w1 ⟨rfl, k1⟩
        obtain ⟨c0, c1, c2, c3, c4⟩ := blk5 (v := ⟨S, A, na, ca, B, nb, cb, L, nl, cl, D, nd, cd⟩) (HX.out.keep k1 id)
        go_wp2_with fail
        refine (HT.out _ k1).mono ?_
        rintro e w2 ⟨u, rfl, hO2, k2⟩
        obtain ⟨A3, c3', rfl, _, _, hr3, _⟩ := hO2.form
        replace k2 := keepN k1 k2
        clear hO2 c0 c1 c2 c3 c4
        go_wp2_with fail
        refine (HFT2.out _ _ _ hr3 k2).mono ?_
        rintro e w3 ⟨rfl, k3⟩
        replace k3 := keepN k2 k3
        obtain ⟨c0, c1, c2, c3, c4⟩ := blk5 (v := ⟨S, A, na, ca, B, nb, cb, L, nl, cl, D, nd, cd⟩) (HX.out.keep k3 id)
        clear hr3
        go_wp2_with fail
        refine (HCl.out _ _ _ (HP2.out _ k3)).mono ?_
        rintro e w4 ⟨u4, rfl, hO4, k4⟩
        have HO4 := Lib.hid hO4
        have HK4 := Lib.hid (keepN (keepN k0 k3) k4)
        have hz := (keepN k0 k3).size
        clear hO4 k4 c0 c1 c2 c3 c4
        go_wp2
        go_ret2
        exact ⟨_, rfl, (by first | exact HO4.out | (rw [HRL.out]; exact HO4.out) : Own w4 _ _ (Fresh w3) u4 _ _).mono (fun k hf _ => Nat.le_trans hz hf), HK4.out⟩

end Go.Proofs.YtbnekeomdhljhaaGreatDoor.F

namespace Go.Proofs.YtbnekeomdhljhaaGreatDoor.W
open Go.RowKit

theorem rcheck_ok (t n : Int) (w : World) (h : okB t n = true) :
    Calls Tryz.prog 137 #[.agg #[.int .i64 t, .int .i64 n]] w fun e w' => e = .returned (.int .i64 0) ∧ Keep NoB w w' := by
  have := rcheck_any t n w
  rw [chk_ok h] at this
  exact this
theorem rcheck_bad (t n : Int) (w : World) (h : okB t n = false) :
    Calls Tryz.prog 137 #[.agg #[.int .i64 t, .int .i64 n]] w fun e w' => e = .returned (.int .i64 21) ∧ Keep NoB w w' := by
  have := rcheck_any t n w
  rw [chk_bad h] at this
  exact this

section
variable {P : Program} {ops : Array Oper} {Q : Exit → Act → World → Prop} {md : Region.Mode} {S : World → Prop}
/-- An operation that yields its value in every world that meets S comes up first; its slot is named. -/
theorem takeT (i t : Nat) (v : Value) {oi : Oper} {fuel : Nat} {listed : Array Bool} {tmps : Array Value} {defers : List Deferred} {w : World} (hi : ops[i]? = some oi) (ht : oi.dst = some t)
    (hs : Region.noSelect ops = true) (hf : Region.free md ops listed i = true) (hr : (Region.ready md ops listed).contains i = true)
    (hQ : ∀ c a w, Q (.panic c) (a.put oi.dst v) w → Q (.panic c) a w) (hw : Region.wanted oi (yielded ops tmps) = true) (hy : ∀ w, S w → (execOp (Act.mk tmps defers).eval oi).run P w = .ok (.value v) w) (hS : S w)
    (h : wpAnyH P md ops Q S fuel (listed.setIfInBounds i true) ⟨tmps.setIfInBounds t v, defers⟩ w) : wpAnyH P md ops Q S (fuel + 1) listed ⟨tmps, defers⟩ w :=
  wpAnyH_take hi hs hf hr hQ (Or.inl ⟨hw, hy⟩) hS (by rw [ht]; exact h)
/-- An operation whose guard does not hold comes up first. -/
theorem skipT (i t : Nat) {oi : Oper} {fuel : Nat} {listed : Array Bool} {tmps : Array Value} {defers : List Deferred} {w : World} (hi : ops[i]? = some oi) (ht : oi.dst = some t)
    (hs : Region.noSelect ops = true) (hf : Region.free md ops listed i = true) (hr : (Region.ready md ops listed).contains i = true)
    (hQ : ∀ c a w, Q (.panic c) (a.put oi.dst undef) w → Q (.panic c) a w) (hw : Region.wanted oi (yielded ops tmps) = false) (hS : S w)
    (h : wpAnyH P md ops Q S fuel (listed.setIfInBounds i true) ⟨tmps.setIfInBounds t undef, defers⟩ w) : wpAnyH P md ops Q S (fuel + 1) listed ⟨tmps, defers⟩ w :=
  wpAnyH_take hi hs hf hr hQ (Or.inr ⟨hw, rfl⟩) hS (by rw [ht]; exact h)
end

set_option maxRecDepth 100000 in
set_option maxHeartbeats 2000000 in
theorem rfits_any (A B : Option Addr) (l : List Int) (x : List (Int × Int)) (n m c d : Nat) (w : World) (ha : Rd w A (ivs l)) (hb : Rd w B (vvs x)) (hn : Hid (l.length = n)) (hm : Hid (x.length = m))
    (h1 : n ≤ 9223372036854775807) (h2 : m ≤ 9223372036854775807) (R : Bool) (hR : Hid (R = fitsB l x)) :
    Calls Tryz.prog 87 #[.slice A n c, .slice B m d] w fun e w' => e = .returned (.bool R) ∧ Keep NoB w w' := by
  by_cases hnm : n = m
  · subst hnm
    go_enter Tryz.func87, Tryz.ntmps87
    go_wp2
    go_loopw [5] (fun i wr => ∃ k : Nat, k ≤ n ∧ i = .int .i64 k ∧ Hid (l.take k = ts (x.take k) ∧ allOk (x.take k) = true) ∧ Keep NoB w wr) (fun i _ => n - (intOf i).toNat)
    case atStart => exact ⟨0, Nat.zero_le _, rfl, ⟨rfl, rfl⟩, Keep.refl _ _⟩
    case round =>
      obtain ⟨k, hk, rfl, ht, hK⟩ := hrel
      by_cases hlt : k < n
      · have hka : k < l.length := by rw [hn.out]; exact hlt
        have hkb : k < x.length := by rw [hm.out]; exact hlt
        obtain ⟨ga, oa, rfl, hca⟩ := rdI_at ha (by omega)
        obtain ⟨gb, ob, rfl, hcb⟩ := rdV_at hb (by omega)
        have ca := hK.cell (hca k hka) id
        have cb0 := hK.cell (hcb k hkb).1 id
        have cb1 := hK.cell (hcb k hkb).2 id
        have HT := Lib.hid (show l.take (k + 1) = l.take k ++ [l[k]] from List.take_succ_eq_append_getElem hka)
        have HU := Lib.hid (show x.take (k + 1) = x.take k ++ [x[k]] from List.take_succ_eq_append_getElem hkb)
        have HX : Hid (l = ts x → l[k] = x[k].1) := fun e => by simp [e, ts]
        have HY : Hid (allOk x = true → okB x[k].1 x[k].2 = true) := fun e => (List.all_eq_true.1 e) _ (List.getElem_mem hkb)
        clear hca hcb
        generalize l[k] = u at ca HT HX
        generalize x[k] = y at cb0 cb1 HU HX HY
        obtain ⟨t, v⟩ := y
        dsimp only at cb0 cb1 HX HY
        have HQ : Hid (∀ w', Keep NoB wr w' → w'.cell? ⟨gb, ob + k * 2, none⟩ = some (.int .i64 t) ∧ w'.cell? ⟨gb, ob + k * 2 + 1, none⟩ = some (.int .i64 v) ∧ w'.cell? ⟨ga, oa + k, none⟩ = some (.int .i64 u)) :=
          fun w' hk' => ⟨hk'.cell cb0 id, hk'.cell cb1 id, hk'.cell ca id⟩
        have hd0 := (Keep.refl NoB wr).drew
        cases hok : okB t v
        · have hf : R = false := by
            rw [hR.out]
            exact fits_false l x (fun h => by rw [HY.out h.2] at hok; cases hok)
          subst hf
          have HC := Lib.hid (rcheck_bad t v · hok)
          clear HT HU HX HY hok ha hb
          go_wp2
          refine wp_region_held_drew (S := fun w' => w'.cell? ⟨gb, ob + k * 2, none⟩ = some (.int .i64 t) ∧ w'.cell? ⟨gb, ob + k * 2 + 1, none⟩ = some (.int .i64 v)) (by kernel_rfl) ⟨(HQ.out _ hd0).1, (HQ.out _ hd0).2.1⟩ (fun hS => ?_)
          refine takeT 0 17 (.slice (some ⟨gb, ob, none⟩) n d) rfl rfl (by kernel_rfl) (by kernel_rfl) (by kernel_rfl) (fun _ _ _ h => h) (by rfl) (fun w _ => by go_simp) hS ?_
          simp only [List.setIfInBounds_toArray, List.set_cons_zero, List.set_cons_succ]
          refine takeT 1 18 (.int .i64 k) rfl rfl (by kernel_rfl) (by kernel_rfl) (by kernel_rfl) (fun _ _ _ h => h) (by rfl) (fun w _ => by go_simp) hS ?_
          simp only [List.setIfInBounds_toArray, List.set_cons_zero, List.set_cons_succ]
          refine takeT 2 19 (.pointer (some ⟨gb, ob + k * 2, none⟩)) rfl rfl (by kernel_rfl) (by kernel_rfl) (by kernel_rfl) (fun _ _ _ h => h) (by rfl) (fun w _ => by go_simp) hS ?_
          simp only [List.setIfInBounds_toArray, List.set_cons_zero, List.set_cons_succ]
          refine takeT 3 20 (.agg #[.int .i64 t, .int .i64 v]) rfl rfl (by kernel_rfl) (by kernel_rfl) (by kernel_rfl) (fun _ _ _ h => h) (by rfl) (fun w hSw => by obtain ⟨e0, e1⟩ := hSw; go_simp) hS ?_
          simp only [List.setIfInBounds_toArray, List.set_cons_zero, List.set_cons_succ]
          refine wpAnyH_ready (rs := [4]) (by kernel_rfl) (by simp) ?_
          refine AllReadyH.cons rfl (fun K hK => ?_) AllReadyH.nil
          go_simp
          go_wp2_with (go_at_call 137; refine (HC.out _).mono ?_; rintro e w2 ⟨rfl, hk2⟩)
          refine hK.out _ _ ⟨(HQ.out _ (keepN hd0 hk2)).1, (HQ.out _ (keepN hd0 hk2)).2.1⟩ (fun hS2 => ?_)
          clear hK K
          refine takeT 5 22 (.bool true) rfl rfl (by kernel_rfl) (by kernel_rfl) (by kernel_rfl) (fun _ _ _ h => h) (by rfl) (fun w _ => by go_simp) hS2 ?_
          simp only [List.setIfInBounds_toArray, List.set_cons_zero, List.set_cons_succ]
          refine takeT 6 23 (.bool true) rfl rfl (by kernel_rfl) (by kernel_rfl) (by kernel_rfl) (fun _ _ _ h => h) (by rfl) (fun w _ => by go_simp) hS2 ?_
          simp only [List.setIfInBounds_toArray, List.set_cons_zero, List.set_cons_succ]
          refine skipT 7 24 rfl rfl (by kernel_rfl) (by kernel_rfl) (by kernel_rfl) (fun _ _ _ h => h) (by rfl) hS2 ?_
          simp only [List.setIfInBounds_toArray, List.set_cons_zero, List.set_cons_succ]
          refine skipT 8 25 rfl rfl (by kernel_rfl) (by kernel_rfl) (by kernel_rfl) (fun _ _ _ h => h) (by rfl) hS2 ?_
          simp only [List.setIfInBounds_toArray, List.set_cons_zero, List.set_cons_succ]
          refine skipT 9 26 rfl rfl (by kernel_rfl) (by kernel_rfl) (by kernel_rfl) (fun _ _ _ h => h) (by rfl) hS2 ?_
          simp only [List.setIfInBounds_toArray, List.set_cons_zero, List.set_cons_succ]
          refine skipT 10 27 rfl rfl (by kernel_rfl) (by kernel_rfl) (by kernel_rfl) (fun _ _ _ h => h) (by rfl) hS2 ?_
          simp only [List.setIfInBounds_toArray, List.set_cons_zero, List.set_cons_succ]
          refine skipT 11 28 rfl rfl (by kernel_rfl) (by kernel_rfl) (by kernel_rfl) (fun _ _ _ h => h) (by rfl) hS2 ?_
          simp only [List.setIfInBounds_toArray, List.set_cons_zero, List.set_cons_succ]
          refine skipT 12 29 rfl rfl (by kernel_rfl) (by kernel_rfl) (by kernel_rfl) (fun _ _ _ h => h) (by rfl) hS2 ?_
          simp only [List.setIfInBounds_toArray, List.set_cons_zero, List.set_cons_succ]
          refine skipT 13 30 rfl rfl (by kernel_rfl) (by kernel_rfl) (by kernel_rfl) (fun _ _ _ h => h) (by rfl) hS2 ?_
          simp only [List.setIfInBounds_toArray, List.set_cons_zero, List.set_cons_succ]
          refine skipT 14 31 rfl rfl (by kernel_rfl) (by kernel_rfl) (by kernel_rfl) (fun _ _ _ h => h) (by rfl) hS2 ?_
          simp only [List.setIfInBounds_toArray, List.set_cons_zero, List.set_cons_succ]
          refine skipT 15 32 rfl rfl (by kernel_rfl) (by kernel_rfl) (by kernel_rfl) (fun _ _ _ h => h) (by rfl) hS2 ?_
          simp only [List.setIfInBounds_toArray, List.set_cons_zero, List.set_cons_succ]
          refine skipT 16 33 rfl rfl (by kernel_rfl) (by kernel_rfl) (by kernel_rfl) (fun _ _ _ h => h) (by rfl) hS2 ?_
          simp only [List.setIfInBounds_toArray, List.set_cons_zero, List.set_cons_succ]
          refine takeT 17 34 (.bool true) rfl rfl (by kernel_rfl) (by kernel_rfl) (by kernel_rfl) (fun _ _ _ h => h) (by rfl) (fun w _ => by go_simp) hS2 ?_
          simp only [List.setIfInBounds_toArray, List.set_cons_zero, List.set_cons_succ]
          refine wpAnyH_done (by kernel_rfl) ?_ _
          go_wp2
          go_ret
          exact ⟨rfl, keepN hK.drew hk2⟩
        · have HC := Lib.hid (rcheck_ok t v · hok)
          by_cases he : t = u
          · subst he
            have ht2 : Hid (l.take (k + 1) = ts (x.take (k + 1)) ∧ allOk (x.take (k + 1)) = true) := by
              obtain ⟨e1, e2⟩ := ht.out
              refine ⟨?_, ?_⟩
              · rw [HT.out, HU.out, e1]; simp [ts]
              · unfold allOk at e2 ⊢; rw [HU.out, List.all_append, e2]; simp [hok]
            clear HT HU HX HY hok ha hb
            go_wp2
            go_region_held (fun w' => w'.cell? ⟨gb, ob + k * 2, none⟩ = some (.int .i64 t) ∧ w'.cell? ⟨gb, ob + k * 2 + 1, none⟩ = some (.int .i64 v) ∧ w'.cell? ⟨ga, oa + k, none⟩ = some (.int .i64 t))
              (first | exact HQ.out _ hd0 | exact HQ.out _ (keepN hd0 hk2))
              ((go_at_call 137; refine (HC.out _).mono ?_; rintro e w2 ⟨rfl, hk2⟩))
            all_goals go_wp2
            all_goals go_roundw
            all_goals first | (case rel => exact ⟨k + 1, by omega, by go_num, ht2, keepN hK.drew hk2⟩) | skip
            all_goals first | (case measure => simp [intOf]; omega) | skip
          · have hf : R = false := by
              rw [hR.out]
              exact fits_false l x (fun h => he (HX.out h.1).symm)
            subst hf
            have hne : (t != u) = true := by rw [bne_iff_ne]; exact he
            clear HT HU HX HY he ha hb hok
            go_wp2
            go_region_held (fun w' => w'.cell? ⟨gb, ob + k * 2, none⟩ = some (.int .i64 t) ∧ w'.cell? ⟨gb, ob + k * 2 + 1, none⟩ = some (.int .i64 v) ∧ w'.cell? ⟨ga, oa + k, none⟩ = some (.int .i64 u))
              (first | exact HQ.out _ hd0 | exact HQ.out _ (keepN hd0 hk2))
              ((go_at_call 137; refine (HC.out _).mono ?_; rintro e w2 ⟨rfl, hk2⟩))
            all_goals go_wp2
            all_goals go_ret
            all_goals exact ⟨rfl, keepN hK.drew hk2⟩
      · have hf : R = true := by
          rw [hR.out, fits_true]
          have e1 := ht.out
          rwa [List.take_of_length_le (by rw [hn.out]; omega), List.take_of_length_le (by rw [hm.out]; omega)] at e1
        subst hf
        go_wp2
        go_ret
        exact ⟨rfl, hK⟩
  · have hf : R = false := by
      rw [hR.out]
      exact fits_false l x (fun h => hnm (by rw [← hn.out, ← hm.out, h.1]; simp [ts]))
    subst hf
    have hne : ((n : Int) != (m : Int)) = true := by rw [bne_iff_ne]; omega
    clear hnm
    go_enter Tryz.func87, Tryz.ntmps87
    go_wp2
    go_ret
    exact ⟨rfl, Keep.refl _ _⟩

end Go.Proofs.YtbnekeomdhljhaaGreatDoor.W

namespace Go.Proofs.YtbnekeomdhljhaaGreatDoor.F
open Go.RowKit W

set_option maxRecDepth 100000 in
set_option maxHeartbeats 8000000 in
theorem rslots_any (v : FV) (f : Fu) (w : World) (h : FnAt w v f) (hs : SmF v) :
    Calls Tryz.prog 32 #[v.val] w fun e w' => ∃ u, e = .returned u ∧ Own w' 3 1 (Fresh w) u (slF f).length (ivs (slF f)) ∧ Keep NoB w w' := by
  have bx := Blk.new w 27 v.cells
  have k0 := (Keep.refl NoB w).alloc (.cells v.cells 27)
  have HF := Lib.hid (h.keepN k0)
  have HX := Lib.hid bx
  cases ho : okF f
  · have HC := Lib.hid (rcheck_any v f _ HF.out hs 70 (chkF_no ho))
    rw [slF_no ho]
    obtain ⟨s0, A, na, ca, B, nb, cb, L, nl, cl, D, nd, cd⟩ := v
    unfold FV.val FV.cells at *
    clear bx h hs ho HF
    go_enter Tryz.func32, Tryz.ntmps32
    obtain ⟨c0, c1, c2, c3, c4⟩ := blk5 (v := ⟨s0, A, na, ca, B, nb, cb, L, nl, cl, D, nd, cd⟩) HX.out
    dsimp only at c0 c1 c2 c3 c4
    go_wp2_with fail
    refine HC.out.mono ?_
    rintro e w1 ⟨rfl, k1⟩
    go_wp2
    go_ret
    exact ⟨_, rfl, Own.nil _ _ _ _, keepN k0 k1⟩
  · have HC := Lib.hid (rcheck_any v f _ HF.out hs 0 (chkF_ok ho))
    have HT := Lib.hid (fun w1 hk => rtypes_any v f w1 (HF.out.keepN hk) hs)
    rw [slF_ok ho]
    obtain ⟨s0, A, na, ca, B, nb, cb, L, nl, cl, D, nd, cd⟩ := v
    unfold FV.val FV.cells at *
    clear bx h hs ho HF
    go_enter Tryz.func32, Tryz.ntmps32
    obtain ⟨c0, c1, c2, c3, c4⟩ := blk5 (v := ⟨s0, A, na, ca, B, nb, cb, L, nl, cl, D, nd, cd⟩) HX.out
    dsimp only at c0 c1 c2 c3 c4
    go_wp2_with fail
    refine HC.out.mono ?_
    rintro e w1 ⟨rfl, k1⟩
    clear c0 c1 c2 c3 c4
    obtain ⟨c0, c1, c2, c3, c4⟩ := blk5 (v := ⟨s0, A, na, ca, B, nb, cb, L, nl, cl, D, nd, cd⟩) (HX.out.keep k1 id)
    dsimp only at c0 c1 c2 c3 c4
    go_wp2_with fail
    refine (HT.out _ k1).mono ?_
    rintro e w2 ⟨u, rfl, hO, k2⟩
    obtain ⟨A3, c3', rfl, _, _, _, _⟩ := hO.form
    have HO := Lib.hid hO
    clear hO c0 c1 c2 c3 c4
    go_wp2
    go_ret
    have hz := (keepN k0 k1).size
    exact ⟨_, rfl, HO.out.mono (fun k hf _ => Nat.le_trans hz hf), keepN (keepN k0 k1) k2⟩

set_option maxRecDepth 100000 in
set_option maxHeartbeats 8000000 in
theorem rslot_any (v : FV) (f : Fu) (i : Int) (w : World) (h : FnAt w v f) (hs : SmF v) (A0 T0 E0 : Int) (hR : Hid (slW f i = A0 ∧ slT f i = T0 ∧ slE f i = E0)) :
    Calls Tryz.prog 25 #[v.val, .int .i64 i] w fun e w' => e = .returned (.tuple #[.int .i64 A0, .int .i64 T0, .int .i64 E0]) ∧ Keep NoB w w' := by
  have bx := Blk.new w 27 v.cells
  have k0 := (Keep.refl NoB w).alloc (.cells v.cells 27)
  have HF := Lib.hid (h.keepN k0)
  have HX := Lib.hid bx
  have HS := Lib.hid (rslots_any v f _ HF.out hs)
  have hb : (slF f).length ≤ 300 := by
    cases ho : okF f
    · rw [slF_no ho]; simp
    · rw [slF_ok ho, sl_length, h.la, h.lb, h.ll]; have := hs.na; have := hs.nb; have := hs.nl; omega
  by_cases hin : okF f = true ∧ 0 ≤ i ∧ i < (sl f).length
  · obtain ⟨ho, h0, h1⟩ := hin
    obtain ⟨i, rfl⟩ : ∃ j : Nat, i = (j : Int) := ⟨i.toNat, by omega⟩
    have h1 : i < (sl f).length := by omega
    obtain ⟨e1, e2, e3⟩ := slot_yes ho h1
    obtain ⟨rfl, rfl, rfl⟩ : wh f i = A0 ∧ ty f i = T0 ∧ 0 = E0 := ⟨e1.symm.trans hR.out.1, e2.symm.trans hR.out.2.1, e3.symm.trans hR.out.2.2⟩
    rw [slF_ok ho] at HS hb
    have HY := Lib.hid (ty_at h1).symm
    have hw : wh f i = if i < v.na then 1 else if i < v.na + v.nb then 2 else 3 := by unfold wh; rw [h.la, h.lb]
    rw [hw]
    generalize ty f i = t at *
    obtain ⟨m, hm⟩ : ∃ m, (sl f).length = m := ⟨_, rfl⟩
    have HN := Lib.hid hm
    rw [hm] at HS hb h1
    have hm2 : m = v.na + v.nb + v.nl := by rw [← hm, sl_length, h.la, h.lb, h.ll]
    obtain ⟨s0, A, na, ca, B, nb, cb, L, nl, cl, D, nd, cd⟩ := v
    unfold FV.val FV.cells at *
    dsimp only at hm2
    clear bx h hs ho hR e1 e2 e3 h0 hm hw HF
    by_cases q1 : i < na
    · rw [if_pos q1]
      go_enter Tryz.func25, Tryz.ntmps25
      obtain ⟨c0, c1, c2, c3, c4⟩ := blk5 (v := ⟨s0, A, na, ca, B, nb, cb, L, nl, cl, D, nd, cd⟩) HX.out
      dsimp only at c0 c1 c2 c3 c4
      go_wp2_with fail
      refine (HS.out).mono ?_
      rintro e w1 ⟨u, rfl, hO, k1⟩
      obtain ⟨A3, c3', rfl, _, _, hr3, hA3⟩ := hO.form
      clear hO c0 c1 c2 c3 c4
      obtain ⟨c0, c1, c2, c3, c4⟩ := blk5 (v := ⟨s0, A, na, ca, B, nb, cb, L, nl, cl, D, nd, cd⟩) (HX.out.keep k1 id)
      dsimp only at c0 c1 c2 c3 c4
      obtain ⟨g, off, rfl, hc⟩ := rdI_at hr3 (by rw [HN.out]; omega)
      have ci := hc i (by rw [HN.out]; omega)
      rw [HY.out] at ci
      obtain rfl : off = 0 := congrArg Addr.off (hA3 _ rfl).2
      rw [Nat.zero_add] at ci
      clear hc hr3 hA3
      go_wp2_with fail
      go_region
      all_goals go_wp2
      all_goals go_ret3
      all_goals exact ⟨rfl, keepN k0 k1.drew⟩
    · rw [if_neg q1]
      by_cases q2 : i < na + nb
      · rw [if_pos q2]
        go_enter Tryz.func25, Tryz.ntmps25
        obtain ⟨c0, c1, c2, c3, c4⟩ := blk5 (v := ⟨s0, A, na, ca, B, nb, cb, L, nl, cl, D, nd, cd⟩) HX.out
        dsimp only at c0 c1 c2 c3 c4
        go_wp2_with fail
        refine (HS.out).mono ?_
        rintro e w1 ⟨u, rfl, hO, k1⟩
        obtain ⟨A3, c3', rfl, _, _, hr3, hA3⟩ := hO.form
        clear hO c0 c1 c2 c3 c4
        obtain ⟨c0, c1, c2, c3, c4⟩ := blk5 (v := ⟨s0, A, na, ca, B, nb, cb, L, nl, cl, D, nd, cd⟩) (HX.out.keep k1 id)
        dsimp only at c0 c1 c2 c3 c4
        obtain ⟨g, off, rfl, hc⟩ := rdI_at hr3 (by rw [HN.out]; omega)
        have ci := hc i (by rw [HN.out]; omega)
        rw [HY.out] at ci
        obtain rfl : off = 0 := congrArg Addr.off (hA3 _ rfl).2
        rw [Nat.zero_add] at ci
        clear hc hr3 hA3
        go_wp2_with fail
        go_region
        all_goals go_wp2
        all_goals go_ret3
        all_goals exact ⟨rfl, keepN k0 k1.drew⟩
      · rw [if_neg q2]
        go_enter Tryz.func25, Tryz.ntmps25
        obtain ⟨c0, c1, c2, c3, c4⟩ := blk5 (v := ⟨s0, A, na, ca, B, nb, cb, L, nl, cl, D, nd, cd⟩) HX.out
        dsimp only at c0 c1 c2 c3 c4
        go_wp2_with fail
        refine (HS.out).mono ?_
        rintro e w1 ⟨u, rfl, hO, k1⟩
        obtain ⟨A3, c3', rfl, _, _, hr3, hA3⟩ := hO.form
        clear hO c0 c1 c2 c3 c4
        obtain ⟨c0, c1, c2, c3, c4⟩ := blk5 (v := ⟨s0, A, na, ca, B, nb, cb, L, nl, cl, D, nd, cd⟩) (HX.out.keep k1 id)
        dsimp only at c0 c1 c2 c3 c4
        obtain ⟨g, off, rfl, hc⟩ := rdI_at hr3 (by rw [HN.out]; omega)
        have ci := hc i (by rw [HN.out]; omega)
        rw [HY.out] at ci
        obtain rfl : off = 0 := congrArg Addr.off (hA3 _ rfl).2
        rw [Nat.zero_add] at ci
        clear hc hr3 hA3
        go_wp2_with fail
        go_region
        all_goals go_wp2
        all_goals go_ret3
        all_goals exact ⟨rfl, keepN k0 k1.drew⟩
  · obtain ⟨e1, e2, e3⟩ := slot_no hin
    obtain ⟨rfl, rfl, rfl⟩ : 0 = A0 ∧ 0 = T0 ∧ 72 = E0 := ⟨e1.symm.trans hR.out.1, e2.symm.trans hR.out.2.1, e3.symm.trans hR.out.2.2⟩
    have hq : i < 0 ∨ ((slF f).length : Int) ≤ i := by
      cases ho : okF f
      · rw [slF_no ho]; simp; omega
      · rw [slF_ok ho]; rw [ho] at hin; simp at hin; omega
    generalize (slF f).length = m at *
    obtain ⟨s0, A, na, ca, B, nb, cb, L, nl, cl, D, nd, cd⟩ := v
    unfold FV.val FV.cells at *
    clear bx h hs hR e1 e2 e3 hin HF
    by_cases q : i < 0
    · clear hq
      go_enter Tryz.func25, Tryz.ntmps25
      obtain ⟨c0, c1, c2, c3, c4⟩ := blk5 (v := ⟨s0, A, na, ca, B, nb, cb, L, nl, cl, D, nd, cd⟩) HX.out
      dsimp only at c0 c1 c2 c3 c4
      go_wp2_with fail
      refine (HS.out).mono ?_
      rintro e w1 ⟨u, rfl, hO, k1⟩
      obtain ⟨A3, c3', rfl, _, _, hr3, hA3⟩ := hO.form
      clear hO c0 c1 c2 c3 c4
      obtain ⟨c0, c1, c2, c3, c4⟩ := blk5 (v := ⟨s0, A, na, ca, B, nb, cb, L, nl, cl, D, nd, cd⟩) (HX.out.keep k1 id)
      dsimp only at c0 c1 c2 c3 c4
      clear hr3 hA3
      go_wp2
      go_ret3
      exact ⟨rfl, keepN k0 k1⟩
    · have q2 : (m : Int) ≤ i := by omega
      clear hq
      go_enter Tryz.func25, Tryz.ntmps25
      obtain ⟨c0, c1, c2, c3, c4⟩ := blk5 (v := ⟨s0, A, na, ca, B, nb, cb, L, nl, cl, D, nd, cd⟩) HX.out
      dsimp only at c0 c1 c2 c3 c4
      go_wp2_with fail
      refine (HS.out).mono ?_
      rintro e w1 ⟨u, rfl, hO, k1⟩
      obtain ⟨A3, c3', rfl, _, _, hr3, hA3⟩ := hO.form
      clear hO c0 c1 c2 c3 c4
      obtain ⟨c0, c1, c2, c3, c4⟩ := blk5 (v := ⟨s0, A, na, ca, B, nb, cb, L, nl, cl, D, nd, cd⟩) (HX.out.keep k1 id)
      dsimp only at c0 c1 c2 c3 c4
      clear hr3 hA3
      go_wp2
      go_ret3
      exact ⟨rfl, keepN k0 k1⟩

end Go.Proofs.YtbnekeomdhljhaaGreatDoor.F

namespace Go.Proofs.YtbnekeomdhljhaaGreatDoor.F
open Go.RowKit W

theorem own_lt {w : World} {E size n : Nat} {O : Nat → Prop} {v : Value} {xs : List Value} (h : Own w E size O v n xs) {g : Nat} (e : v.ownBlock = some g) : g < w.heap.size := by
  rcases h.1.2 with ⟨rfl, _⟩ | ⟨g', cap, cur, rfl, _, hg, _⟩
  · simp [Value.ownBlock] at e
  · have e2 : g' = g := by simpa [Value.ownBlock] using e
    subst e2
    exact (Array.getElem?_eq_some_iff.1 hg).1
/-- Behind an append to a row whose block is known to be another than one that stays. -/
theorem own_after2 {w W W' : World} {O : Nat → Prop} {E size n : Nat} {v v' : Value} {xs : List Value} (ho : ∀ g, v.ownBlock = some g → O g) (hO : ∀ g, O g → w.heap.size ≤ g) (hn : O W.heap.size) (hK : Keep NoB w W) (hg : W.grownBy W' v.ownBlock)
    (hv : v'.ownBlock = v.ownBlock ∨ v'.ownBlock = some W.heap.size) (hrow : W'.ownsRow 0 E size v' n xs) : Own W' E size O v' n xs ∧ Keep NoB w W' ∧ Keep O W W' := by
  refine ⟨⟨hrow, fun g e => ?_⟩, hK.grown hg (fun g e h => by have := hO g (ho g e); omega), (Keep.refl _ W).grown hg (fun g e _ => ho g e)⟩
  rcases hv with h | h
  · exact ho g (h ▸ e)
  · rw [h] at e; cases e; exact hn
/-- A block of one's own, that a list's is not. -/
def OffB (w : World) (A : Option Addr) (k : Nat) : Prop := w.heap.size ≤ k ∧ ∀ ad, A = some ad → k ≠ ad.block

/-- Which of the first slots are pointers. -/
def pR (l : List Int) (k : Nat) : List Int := ((List.range k).filter fun i => l[i]?.getD 0 == 4).map fun i : Nat => (i : Int)
theorem pR_yes {l : List Int} {k : Nat} (h : k < l.length) (h4 : l[k] = 4) : pR l (k + 1) = pR l k ++ [(k : Int)] := by
  unfold pR; rw [List.range_succ, List.filter_append]; simp [List.getElem?_eq_getElem h, h4]
theorem pR_no {l : List Int} {k : Nat} (h : k < l.length) (h4 : l[k] ≠ 4) : pR l (k + 1) = pR l k := by
  unfold pR; rw [List.range_succ, List.filter_append]; simp [List.getElem?_eq_getElem h, h4]
theorem pR_len (l : List Int) (k : Nat) : (pR l k).length ≤ k := by
  unfold pR; rw [List.length_map]; exact Nat.le_trans (List.length_filter_le _ _) (by simp)
theorem pR_all (f : Fu) : pR (slF f) (slF f).length = ptZ f := by
  unfold pR ptZ
  cases h : okF f
  · rw [slF_no h, ptrF_no h]; rfl
  · rw [slF_ok h, ptrF_ok h]; rfl

set_option maxRecDepth 100000 in
set_option maxHeartbeats 8000000 in
theorem rpointers_any (v : FV) (f : Fu) (w : World) (h : FnAt w v f) (hs : SmF v) :
    Calls Tryz.prog 34 #[v.val] w fun e w' => ∃ u, e = .returned u ∧ Own w' 3 1 (Fresh w) u (ptZ f).length (ivs (ptZ f)) ∧ Keep NoB w w' := by
  have bx := Blk.new w 27 v.cells
  have k0 := (Keep.refl NoB w).alloc (.cells v.cells 27)
  have HF := Lib.hid (h.keepN k0)
  have HX := Lib.hid bx
  have HS := Lib.hid (rslots_any v f _ HF.out hs)
  obtain ⟨i0, hi, hz0, hz1, hz2⟩ := info_parts int_info
  have hb : (slF f).length ≤ 300 := by
    cases ho : okF f
    · rw [slF_no ho]; simp
    · rw [slF_ok ho, sl_length, h.la, h.lb, h.ll]; have := hs.na; have := hs.nb; have := hs.nl; omega
  have HA := Lib.hid (pR_all f)
  generalize slF f = l at HS hb HA
  obtain ⟨m, hm⟩ : ∃ m, l.length = m := ⟨_, rfl⟩
  rw [hm] at HS hb HA
  have HN := Lib.hid hm
  obtain ⟨s0, A, na, ca, B, nb, cb, L, nl, cl, D, nd, cd⟩ := v
  unfold FV.val FV.cells at *
  clear bx h hs hm HF
  go_enter Tryz.func34, Tryz.ntmps34
  obtain ⟨c0, c1, c2, c3, c4⟩ := blk5 (v := ⟨s0, A, na, ca, B, nb, cb, L, nl, cl, D, nd, cd⟩) HX.out
  dsimp only at c0 c1 c2 c3 c4
  go_wp2_with fail
  refine (HS.out).mono ?_
  rintro e w1 ⟨u, rfl, hO, k1⟩
  obtain ⟨A3, c3', rfl, _, _, hr3, hA3⟩ := hO.form
  have HR3 := Lib.hid hr3
  have hk0 := keepN k0 k1
  have HHA := Lib.hid hA3
  clear hO c0 c1 c2 c3 c4 hr3 hA3 k1 HX HS
  go_wp2
  go_loopw [4, 5] (fun u i wr => ∃ k : Nat, k ≤ m ∧ i = .int .i64 (k : Int) ∧ (∃ B d, u = .slice B (pR l k).length d ∧ Own wr 3 1 (Fresh w1) (.slice B (pR l k).length d) (pR l k).length (ivs (pR l k))) ∧ Keep NoB w1 wr) (fun _ i _ => m - (intOf i).toNat)
  case atStart => exact ⟨0, Nat.zero_le _, rfl, ⟨none, 0, rfl, Own.nil _ _ _ _⟩, Keep.refl _ _⟩
  case round =>
    obtain ⟨k, hk, rfl, ⟨B0, d0, rfl, hO⟩, hK⟩ := hrel
    have hle := pR_len l k
    clear k0
    by_cases hlt : k < m
    · have hkl : k < l.length := by rw [HN.out]; exact hlt
      obtain ⟨g, off, rfl, hc⟩ := rdI_at HR3.out (by omega)
      obtain rfl : off = 0 := congrArg Addr.off (HHA.out _ rfl).2
      have ck := hK.cell (hc k hkl) id
      rw [Nat.zero_add] at ck
      have HY := Lib.hid (fun h => pR_yes hkl h)
      have HNO := Lib.hid (fun h => pR_no hkl h)
      clear hc
      obtain ⟨q, hq⟩ : ∃ q, (pR l k).length = q := ⟨_, rfl⟩
      rw [hq] at hle hO ⊢
      generalize l[k] = t at ck HY HNO
      by_cases h4 : t = 4
      · subst h4
        have HS : Hid (ivs (pR l (k + 1)) = ivs (pR l k) ++ [.int .i64 (k : Int)]) := by show _ = _; rw [HY.out rfl]; simp [ivs]
        have HL : Hid ((pR l (k + 1)).length = q + 1) := by show _ = _; rw [HY.out rfl, List.length_append, hq]; rfl
        clear HY HNO hq
        go_wp2_with (at_builtin; refine wpList_append_rd _ rfl (.tmp 19) (.tmp 21) _ rfl 3 1 8 i0 _ Tryz.underlying22 hi hz0 hz1 hz2 rfl (by decide) _ q _ _ 1 _ [.int .i64 (k : Int)] rfl (hO.1.alloc _) rfl (W.rd_made (by simp) rfl) rfl (by simp [Value.oneCell']) (by unfold maxLen; omega) (by omega) ?_; intro B2 d2 w3 hrow3 hg3 hv3; rw [← HS.out] at hrow3; obtain ⟨hO3, hK3⟩ := W.own_after hO.2 (hK.alloc _) hg3 hv3 hrow3; clear hrow3 hg3 hv3)
        go_roundw
        case rel => exact ⟨k + 1, by omega, by go_num, ⟨B2, d2, by rw [HL.out], by rw [HL.out]; exact hO3⟩, hK3⟩
        case measure => simp [intOf]; omega
      · have HS := Lib.hid (HNO.out h4)
        have hne : (t == 4) = false := by rw [beq_eq_false_iff_ne]; exact h4
        clear HY HNO h4
        go_wp2
        go_roundw
        case rel => exact ⟨k + 1, by omega, by go_num, ⟨B0, d0, by rw [HS.out, hq], by rw [HS.out, hq]; exact hO⟩, hK⟩
        case measure => simp [intOf]; omega
    · obtain rfl : k = m := by omega
      have HO := Lib.hid hO
      clear hO hle
      go_wp2
      go_ret
      have hO2 := HO.out
      rw [HA.out] at hO2 ⊢
      exact ⟨_, rfl, hO2.mono (fun j hf _ => Nat.le_trans hk0.size hf), keepN hk0 hK⟩

/-- Values so far. -/
def bgL (f : Fu) (x : List (Int × Int)) (k : Nat) : List (Int × Int) := x ++ zs (((sl f).take k).drop x.length)
theorem bgL_0 (f : Fu) (x : List (Int × Int)) : bgL f x x.length = x := by
  unfold bgL; rw [List.drop_of_length_le (by rw [List.length_take]; omega)]; simp [zs]
theorem bgL_all (f : Fu) (x : List (Int × Int)) : bgL f x (sl f).length = begV f x := by
  unfold bgL begV; rw [List.take_length]
theorem bgL_len (f : Fu) (x : List (Int × Int)) {k : Nat} (h : x.length ≤ k) (h2 : k ≤ (sl f).length) : (bgL f x k).length = k := by
  unfold bgL zs; rw [List.length_append, List.length_map, List.length_drop, List.length_take]; omega
theorem bgL_succ (f : Fu) (x : List (Int × Int)) {k : Nat} (h : x.length ≤ k) (h2 : k < (sl f).length) : vvs (bgL f x (k + 1)) = vvs (bgL f x k) ++ [.int .i64 (sl f)[k], .int .i64 0] := by
  unfold bgL
  rw [List.take_succ_eq_append_getElem h2, List.drop_append_of_le_length (by rw [List.length_take]; omega)]
  unfold zs
  rw [List.map_append, ← List.append_assoc, vvs_append]
  rfl

set_option maxRecDepth 100000 in
set_option maxHeartbeats 8000000 in
theorem rbegin_any (v : FV) (f : Fu) (X : Option Addr) (x : List (Int × Int)) (m c : Nat) (w : World) (h : FnAt w v f) (hs : SmF v) (hx : Rd w X (vvs x)) (hm : Hid (x.length = m)) (hm1 : m ≤ 100) :
    Calls Tryz.prog 27 #[v.val, .slice X m c] w fun e w' => ∃ u, e = .returned (.tuple #[u, .int .i64 (begE f x)]) ∧ Own w' 68 2 (Fresh w) u (begL f x).length (vvs (begL f x)) ∧ Keep NoB w w' := by
  have bx := Blk.new w 27 v.cells
  have k0 := (Keep.refl NoB w).alloc (.cells v.cells 27)
  have HF := Lib.hid (h.keepN k0)
  have HX := Lib.hid bx
  have HR := Lib.hid (hx.keepN k0)
  cases ho : okF f
  · have HC := Lib.hid (rcheck_any v f _ HF.out hs 70 (chkF_no ho))
    obtain ⟨e1, e2⟩ := beg_1 x ho
    rw [e1, e2]
    obtain ⟨s0, A, na, ca, B, nb, cb, L, nl, cl, D, nd, cd⟩ := v
    unfold FV.val FV.cells at *
    clear bx h hs ho HF e1 e2 hx
    go_enter Tryz.func27, Tryz.ntmps27
    obtain ⟨c0, c1, c2, c3, c4⟩ := blk5 (v := ⟨s0, A, na, ca, B, nb, cb, L, nl, cl, D, nd, cd⟩) HX.out
    dsimp only at c0 c1 c2 c3 c4
    go_wp2_with fail
    refine (HC.out).mono ?_
    rintro e w1 ⟨rfl, k1⟩
    clear c0 c1 c2 c3 c4
    obtain ⟨c0, c1, c2, c3, c4⟩ := blk5 (v := ⟨s0, A, na, ca, B, nb, cb, L, nl, cl, D, nd, cd⟩) (HX.out.keep k1 id)
    dsimp only at c0 c1 c2 c3 c4
    go_wp2
    go_ret2
    exact ⟨_, rfl, Own.nil _ _ _ _, keepN k0 k1⟩
  have HC := Lib.hid (rcheck_any v f _ HF.out hs 0 (chkF_ok ho))
  have HFT := Lib.hid (fun w1 (hk : Keep NoB (w.alloc (.cells v.cells 27)) w1) (R : Bool) hR => rfits_any v.A X f.ar x v.na m v.ca c w1 (HF.out.keepN hk).ra (HR.out.keepN hk) h.la hm (by have := hs.na; omega) (by omega) R hR)
  cases hf : fitsB f.ar x
  · have HFT2 := Lib.hid (fun w1 hk => HFT.out w1 hk false hf.symm)
    obtain ⟨e1, e2⟩ := beg_2 ho hf
    rw [e1, e2]
    obtain ⟨s0, A, na, ca, B, nb, cb, L, nl, cl, D, nd, cd⟩ := v
    unfold FV.val FV.cells at *
    dsimp only at HFT2
    clear bx h hs ho HF e1 e2 hx HFT hf
    go_enter Tryz.func27, Tryz.ntmps27
    obtain ⟨c0, c1, c2, c3, c4⟩ := blk5 (v := ⟨s0, A, na, ca, B, nb, cb, L, nl, cl, D, nd, cd⟩) HX.out
    dsimp only at c0 c1 c2 c3 c4
    go_wp2_with fail
    refine (HC.out).mono ?_
    rintro e w1 ⟨rfl, k1⟩
    clear c0 c1 c2 c3 c4
    obtain ⟨c0, c1, c2, c3, c4⟩ := blk5 (v := ⟨s0, A, na, ca, B, nb, cb, L, nl, cl, D, nd, cd⟩) (HX.out.keep k1 id)
    dsimp only at c0 c1 c2 c3 c4
    go_wp2_with fail
    refine (HFT2.out _ k1).mono ?_
    rintro e w2 ⟨rfl, k2⟩
    replace k2 := keepN k1 k2
    clear c0 c1 c2 c3 c4
    obtain ⟨c0, c1, c2, c3, c4⟩ := blk5 (v := ⟨s0, A, na, ca, B, nb, cb, L, nl, cl, D, nd, cd⟩) (HX.out.keep k2 id)
    dsimp only at c0 c1 c2 c3 c4
    go_wp2
    go_ret2
    exact ⟨_, rfl, Own.nil _ _ _ _, keepN k0 k2⟩
  · have HFT2 := Lib.hid (fun w1 hk => HFT.out w1 hk true hf.symm)
    have HT := Lib.hid (fun w1 hk => rtypes_any v f w1 (HF.out.keepN hk) hs)
    obtain ⟨i0, hi, hz0, hz1, hz2⟩ := info_parts val_info
    obtain ⟨n, hn⟩ : ∃ n, (sl f).length = n := ⟨_, rfl⟩
    have hn3 : n ≤ 300 ∧ m ≤ n := by
      have e1 := ts_len hf
      rw [hm.out, h.la] at e1
      rw [← hn, sl_length, h.la, h.lb, h.ll]; have := hs.na; have := hs.nb; have := hs.nl; omega
    obtain ⟨hn1, hn2⟩ := hn3
    have HN := Lib.hid hn
    have HG0 : Hid (vvs (bgL f x m) = vvs x) := by show _ = _; rw [← hm.out, bgL_0]
    have HGS : Hid (∀ k (hk : k < (sl f).length), m ≤ k → vvs (bgL f x (k + 1)) = vvs (bgL f x k) ++ [.int .i64 (sl f)[k], .int .i64 0]) := fun k hk h => bgL_succ f x (by rw [hm.out]; exact h) hk
    have HGA : Hid (bgL f x n = begV f x) := by show _ = _; rw [← hn, bgL_all]
    have HBL : Hid ((begV f x).length = n) := (begV_len hf).trans hn
    obtain ⟨e1, e2⟩ := beg_3 ho hf
    rw [e1, e2]
    rw [hn] at HT
    have HXL : Hid ((vvs x).length = m * 2) := by show _ = _; rw [vvs_length, hm.out]
    have HV1 := Lib.hid (vvs_one x)
    obtain ⟨s0, A, na, ca, B, nb, cb, L, nl, cl, D, nd, cd⟩ := v
    unfold FV.val FV.cells at *
    dsimp only at HFT2
    clear bx h hs ho HF e1 e2 hx HFT hf hn
    go_enter Tryz.func27, Tryz.ntmps27
    obtain ⟨c0, c1, c2, c3, c4⟩ := blk5 (v := ⟨s0, A, na, ca, B, nb, cb, L, nl, cl, D, nd, cd⟩) HX.out
    dsimp only at c0 c1 c2 c3 c4
    go_wp2_with fail
    refine (HC.out).mono ?_
    rintro e w1 ⟨rfl, k1⟩
    clear c0 c1 c2 c3 c4
    obtain ⟨c0, c1, c2, c3, c4⟩ := blk5 (v := ⟨s0, A, na, ca, B, nb, cb, L, nl, cl, D, nd, cd⟩) (HX.out.keep k1 id)
    dsimp only at c0 c1 c2 c3 c4
    go_wp2_with fail
    refine (HFT2.out _ k1).mono ?_
    rintro e w2 ⟨rfl, k2⟩
    replace k2 := keepN k1 k2
    clear c0 c1 c2 c3 c4
    obtain ⟨c0, c1, c2, c3, c4⟩ := blk5 (v := ⟨s0, A, na, ca, B, nb, cb, L, nl, cl, D, nd, cd⟩) (HX.out.keep k2 id)
    dsimp only at c0 c1 c2 c3 c4
    have HRX := Lib.hid (HR.out.keepN k2)
    go_wp2_with (at_builtin; refine wpList_append_rd _ rfl (.tmp 20) (.tmp 21) _ rfl 68 2 16 i0 _ Tryz.underlying53 hi hz0 hz1 hz2 rfl (by decide) (.slice none 0 0) 0 [] X m c (vvs x) rfl (World.ownsRow_nil _ _ _ _) rfl HRX.out HXL.out HV1.out (by unfold maxLen; omega) (by omega) ?_; intro B5 c5 w5 hrow5 hg5 hv5; rw [Nat.zero_add] at hrow5 hv5 ⊢; rw [List.nil_append] at hrow5; obtain ⟨hO5, hK5⟩ := own_after (w := w2) (fun g e => by cases e) (Keep.refl NoB w2) hg5 hv5 hrow5; have hk5 := keepN k2 hK5; have hlt5 := fun g e => own_lt hO5 (g := g) e; clear hrow5 hg5 hv5 c0 c1 c2 c3 c4; obtain ⟨c0, c1, c2, c3, c4⟩ := blk5 (v := ⟨s0, A, na, ca, B, nb, cb, L, nl, cl, D, nd, cd⟩) (HX.out.keep hk5 id); dsimp only at c0 c1 c2 c3 c4)
    refine (HT.out _ hk5).mono ?_
    rintro e w6 ⟨u6, rfl, hO6, k6⟩
    obtain ⟨A3, c3', rfl, _, _, hr3, hA3⟩ := hO6.form
    have HR3 := Lib.hid hr3
    have HHA := Lib.hid hA3
    have HO5 := Lib.hid (hO5.keepN k6)
    have HK6 := Lib.hid (keepN hK5 k6)
    have HK0 := Lib.hid k0
    have HK2 := Lib.hid k2
    have hz6 := k6.size
    have hz5 := hK5.size
    clear hO6 hr3 hA3 c0 c1 c2 c3 c4 hO5 k6 hk5 k0 k1 k2 hK5 HX HT HC HFT2 HR
    go_wp2
    go_loopw [7, 9] (fun u i wr => ∃ k : Nat, m ≤ k ∧ k ≤ n ∧ i = .int .i64 (k : Int) ∧ (∃ B d, u = .slice B k d ∧ Own wr 68 2 (OffB w2 A3) (.slice B k d) k (vvs (bgL f x k))) ∧ Keep NoB w2 wr ∧ Rd wr A3 (ivs (sl f))) (fun _ i _ => n - (intOf i).toNat)
    case atStart => exact ⟨m, Nat.le_refl _, hn2, rfl, ⟨B5, c5, rfl, by rw [HG0.out]; exact ⟨HO5.out.1, fun g e => ⟨HO5.out.2 g e, fun ad e2 e3 => by have h1 := hlt5 g e; have h2 := (HHA.out ad e2).1; unfold Fresh at h2; omega⟩⟩⟩, HK6.out, HR3.out⟩
    case round =>
      obtain ⟨k, hmk, hk, rfl, ⟨B0, d0, rfl, hO⟩, hK, hr⟩ := hrel
      by_cases hlt : k < n
      · have hkl : k < (sl f).length := by rw [HN.out]; exact hlt
        obtain ⟨g, off, rfl, hc⟩ := rdI_at hr (by omega)
        obtain rfl : off = 0 := congrArg Addr.off (HHA.out _ rfl).2
        have ck := hc k hkl
        rw [Nat.zero_add] at ck
        have HS := Lib.hid (HGS.out k hkl hmk)
        have HR := Lib.hid hr
        clear hc hr HHA HR3 HO5 HK6
        generalize (sl f)[k] = t at ck HS
        go_wp2_with (at_builtin; refine wpList_append_rd _ rfl (.tmp 33) (.tmp 39) _ rfl 68 2 16 i0 _ Tryz.underlying53 hi hz0 hz1 hz2 rfl (by decide) _ k _ _ 1 _ [.int .i64 t, .int .i64 0] rfl (hO.1.alloc _) rfl (W.rd_made (by simp) rfl) rfl (by simp [Value.oneCell']) (by unfold maxLen; omega) (by omega) ?_; intro B7 d7 w7 hrow7 hg7 hv7; rw [← HS.out] at hrow7; have hzz := hK.size; have hgg : g < _ := (rd_ltN HR.out rfl (by simp [ivs, HN.out]; omega)); obtain ⟨hO7, hK7, hk7⟩ := own_after2 (O := OffB w2 (some ⟨g, 0, none⟩)) hO.2 (fun g h => Nat.le_trans h.1 (Nat.le_refl _)) ⟨by simp; omega, fun ad e => by injection e with e; subst e; show _ ≠ g; simp; omega⟩ (hK.alloc _) hg7 hv7 hrow7; have hr7 := rd_above (HR.out.keepN ((Keep.refl NoB _).alloc _)) (fun ad e _ h => h.2 ad e rfl) hk7; clear hrow7 hg7 hv7)
        go_roundw
        case rel => exact ⟨k + 1, by omega, by omega, by go_num, ⟨B7, d7, rfl, hO7⟩, hK7, hr7⟩
        case measure => simp [intOf]; omega
      · obtain rfl : k = n := by omega
        rw [HGA.out] at hO
        have HO := Lib.hid hO
        clear hO hr
        go_wp2
        go_ret2
        refine ⟨_, rfl, ?_, keepN (keepN HK0.out HK2.out) hK⟩
        rw [HBL.out]
        exact HO.out.mono (fun j hf _ => Nat.le_trans (keepN HK0.out HK2.out).size hf.1)

end Go.Proofs.YtbnekeomdhljhaaGreatDoor.F

namespace Go.Proofs.YtbnekeomdhljhaaGreatDoor.F
open Go.RowKit W

theorem resV_at {f : Fu} {x : List (Int × Int)} {k : Nat} (hk : k < f.rs.length) (hx : f.ar.length + k < x.length) : (resV f x).take (k + 1) = (resV f x).take k ++ [x[f.ar.length + k]] := by
  have hl : k < (resV f x).length := by unfold resV; rw [List.length_take, List.length_drop]; omega
  rw [List.take_succ_eq_append_getElem hl]
  have e : (resV f x)[k] = x[f.ar.length + k] := by
    have e1 : (resV f x)[k]? = x[f.ar.length + k]? := by
      unfold resV
      rw [List.getElem?_take, if_pos hk, List.getElem?_drop]
    rw [List.getElem?_eq_getElem hl, List.getElem?_eq_getElem hx] at e1
    exact Option.some.inj e1
  rw [e]

set_option maxRecDepth 100000 in
set_option maxHeartbeats 8000000 in
theorem rresults_any (v : FV) (f : Fu) (X : Option Addr) (x : List (Int × Int)) (m c : Nat) (w : World) (h : FnAt w v f) (hs : SmF v) (hx : Rd w X (vvs x)) (hm : Hid (x.length = m)) (hm1 : m ≤ 1000) :
    Calls Tryz.prog 29 #[v.val, .slice X m c] w fun e w' => ∃ u, e = .returned (.tuple #[u, .int .i64 (resE f x)]) ∧ Own w' 68 2 (Fresh w) u (resL f x).length (vvs (resL f x)) ∧ Keep NoB w w' := by
  have bx := Blk.new w 27 v.cells
  have k0 := (Keep.refl NoB w).alloc (.cells v.cells 27)
  have HF := Lib.hid (h.keepN k0)
  have HX := Lib.hid bx
  have HR := Lib.hid (hx.keepN k0)
  cases ho : okF f
  · have HC := Lib.hid (rcheck_any v f _ HF.out hs 70 (chkF_no ho))
    obtain ⟨e1, e2⟩ := res_1 x ho
    rw [e1, e2]
    obtain ⟨s0, A, na, ca, B, nb, cb, L, nl, cl, D, nd, cd⟩ := v
    unfold FV.val FV.cells at *
    clear bx h hs ho HF e1 e2 hx
    go_enter Tryz.func29, Tryz.ntmps29
    obtain ⟨c0, c1, c2, c3, c4⟩ := blk5 (v := ⟨s0, A, na, ca, B, nb, cb, L, nl, cl, D, nd, cd⟩) HX.out
    dsimp only at c0 c1 c2 c3 c4
    go_wp2_with fail
    refine (HC.out).mono ?_
    rintro e w1 ⟨rfl, k1⟩
    clear c0 c1 c2 c3 c4
    obtain ⟨c0, c1, c2, c3, c4⟩ := blk5 (v := ⟨s0, A, na, ca, B, nb, cb, L, nl, cl, D, nd, cd⟩) (HX.out.keep k1 id)
    dsimp only at c0 c1 c2 c3 c4
    go_wp2
    go_ret2
    exact ⟨_, rfl, Own.nil _ _ _ _, keepN k0 k1⟩
  have HC := Lib.hid (rcheck_any v f _ HF.out hs 0 (chkF_ok ho))
  have HT := Lib.hid (fun w1 hk => rtypes_any v f w1 (HF.out.keepN hk) hs)
  obtain ⟨n, hn⟩ : ∃ n, (sl f).length = n := ⟨_, rfl⟩
  have hn3 : n ≤ 300 := by rw [← hn, sl_length, h.la, h.lb, h.ll]; have := hs.na; have := hs.nb; have := hs.nl; omega
  have hn4 : n = v.na + v.nb + v.nl := by rw [← hn, sl_length, h.la, h.lb, h.ll]
  have HFT := Lib.hid (fun A cA w1 (hr : Rd w1 A (ivs (sl f))) (hk : Keep NoB (w.alloc (.cells v.cells 27)) w1) (R : Bool) hR => rfits_any A X (sl f) x n m cA c w1 hr (HR.out.keepN hk) hn hm (by omega) (by omega) R hR)
  rw [hn] at HT
  have hna := h.la
  have hnb := h.lb
  have HI : Hid (v.na ≤ 100 ∧ v.nb ≤ 100) := ⟨hs.na, hs.nb⟩
  have HN4 := Lib.hid hn4
  cases hf : fitsB (sl f) x
  · have HFT2 := Lib.hid (fun A cA w1 hr hk => HFT.out A cA w1 hr hk false hf.symm)
    obtain ⟨e1, e2⟩ := res_2 ho hf
    rw [e1, e2]
    obtain ⟨s0, A, na, ca, B, nb, cb, L, nl, cl, D, nd, cd⟩ := v
    unfold FV.val FV.cells at *
    clear hn4 HN4 bx h hs ho HF e1 e2 hx HFT hf hn hna hnb
    go_enter Tryz.func29, Tryz.ntmps29
    obtain ⟨c0, c1, c2, c3, c4⟩ := blk5 (v := ⟨s0, A, na, ca, B, nb, cb, L, nl, cl, D, nd, cd⟩) HX.out
    dsimp only at c0 c1 c2 c3 c4
    go_wp2_with fail
    refine (HC.out).mono ?_
    rintro e w1 ⟨rfl, k1⟩
    clear c0 c1 c2 c3 c4
    obtain ⟨c0, c1, c2, c3, c4⟩ := blk5 (v := ⟨s0, A, na, ca, B, nb, cb, L, nl, cl, D, nd, cd⟩) (HX.out.keep k1 id)
    dsimp only at c0 c1 c2 c3 c4
    go_wp2_with fail
    refine (HT.out _ k1).mono ?_
    rintro e w2 ⟨u, rfl, hO2, k2⟩
    obtain ⟨A3, c3', rfl, _, _, hr3, _⟩ := hO2.form
    replace k2 := keepN k1 k2
    clear hO2 c0 c1 c2 c3 c4
    go_wp2_with fail
    refine (HFT2.out _ _ _ hr3 k2).mono ?_
    rintro e w3 ⟨rfl, k3⟩
    replace k3 := keepN k2 k3
    clear hr3
    obtain ⟨c0, c1, c2, c3, c4⟩ := blk5 (v := ⟨s0, A, na, ca, B, nb, cb, L, nl, cl, D, nd, cd⟩) (HX.out.keep k3 id)
    dsimp only at c0 c1 c2 c3 c4
    go_wp2
    go_ret2
    exact ⟨_, rfl, Own.nil _ _ _ _, keepN k0 k3⟩
  · have HFT2 := Lib.hid (fun A cA w1 hr hk => HFT.out A cA w1 hr hk true hf.symm)
    obtain ⟨i0, hi, hz0, hz1, hz2⟩ := info_parts val_info
    obtain ⟨e1, e2⟩ := res_3 ho hf
    rw [e1, e2]
    have HMN : Hid (m = n) := by show _ = _; rw [← hn, ← hm.out]; exact (ts_len hf).symm
    have HRL : Hid ((resV f x).length = v.nb) := (resV_len hf).trans hnb
    have HAT : Hid (∀ k, k < v.nb → ∀ hx : v.na + k < x.length, (resV f x).take (k + 1) = (resV f x).take k ++ [x[v.na + k]]) := fun k hk hx => by
      have e := resV_at (f := f) (k := k) (by rw [hnb]; exact hk) (x := x) (by rw [hna]; exact hx)
      simp only [hna] at e
      exact e
    obtain ⟨s0, A, na, ca, B, nb, cb, L, nl, cl, D, nd, cd⟩ := v
    unfold FV.val FV.cells at *
    dsimp only at HN4 HRL HAT HI
    clear hn4 bx h hs ho HF e1 e2 hx HFT hf hn hna hnb
    go_enter Tryz.func29, Tryz.ntmps29
    obtain ⟨c0, c1, c2, c3, c4⟩ := blk5 (v := ⟨s0, A, na, ca, B, nb, cb, L, nl, cl, D, nd, cd⟩) HX.out
    dsimp only at c0 c1 c2 c3 c4
    go_wp2_with fail
    refine (HC.out).mono ?_
    rintro e w1 ⟨rfl, k1⟩
    clear c0 c1 c2 c3 c4
    obtain ⟨c0, c1, c2, c3, c4⟩ := blk5 (v := ⟨s0, A, na, ca, B, nb, cb, L, nl, cl, D, nd, cd⟩) (HX.out.keep k1 id)
    dsimp only at c0 c1 c2 c3 c4
    go_wp2_with fail
    refine (HT.out _ k1).mono ?_
    rintro e w2 ⟨u, rfl, hO2, k2⟩
    obtain ⟨A3, c3', rfl, _, _, hr3, _⟩ := hO2.form
    replace k2 := keepN k1 k2
    clear hO2 c0 c1 c2 c3 c4
    go_wp2_with fail
    refine (HFT2.out _ _ _ hr3 k2).mono ?_
    rintro e w3 ⟨rfl, k3⟩
    replace k3 := keepN k2 k3
    clear hr3
    obtain ⟨c0, c1, c2, c3, c4⟩ := blk5 (v := ⟨s0, A, na, ca, B, nb, cb, L, nl, cl, D, nd, cd⟩) (HX.out.keep k3 id)
    dsimp only at c0 c1 c2 c3 c4
    have HK3 := Lib.hid k3
    have HK0 := Lib.hid k0
    have hw0 := (keepN k0 k3).size
    clear c0 c1 c2 c3 c4 k0 k1 k2 k3 HC HT HFT2
    go_wp2
    go_loopw [7, 8] (fun u i wr => ∃ k : Nat, k ≤ nb ∧ i = .int .i64 (k : Int) ∧ (∃ B d, u = .slice B k d ∧ Own wr 68 2 (Fresh w3) (.slice B k d) k (vvs ((resV f x).take k))) ∧ Keep NoB w3 wr) (fun _ i _ => nb - (intOf i).toNat)
    case atStart => exact ⟨0, Nat.zero_le _, rfl, ⟨none, 0, rfl, Own.nil _ _ _ _⟩, Keep.refl _ _⟩
    case round =>
      obtain ⟨k, hk, rfl, ⟨B0, d0, rfl, hO⟩, hK⟩ := hrel
      obtain ⟨hna, hnb⟩ := HI.out
      have hkk := keepN HK3.out hK
      obtain ⟨c0, c1, c2, c3, c4⟩ := blk5 (v := ⟨s0, A, na, ca, B, nb, cb, L, nl, cl, D, nd, cd⟩) (HX.out.keep hkk id)
      dsimp only at c0 c1 c2 c3 c4
      have hX := Lib.hid (HR.out.keepN hkk)
      by_cases hlt : k < nb
      · have hkl : na + k < x.length := by rw [hm.out, HMN.out, HN4.out]; omega
        obtain ⟨g, off, rfl, hc⟩ := rdV_at hX.out (by omega)
        obtain ⟨ck, cj⟩ := hc (na + k) hkl
        have HS : Hid (vvs ((resV f x).take (k + 1)) = vvs ((resV f x).take k) ++ [.int .i64 x[na + k].1, .int .i64 x[na + k].2]) := by
          show _ = _
          rw [HAT.out k hlt hkl, vvs_append]; rfl
        have q1 : na + k < m := by rw [HMN.out, HN4.out]; omega
        clear hc hkk
        generalize x[na + k].1 = t at ck HS
        generalize x[na + k].2 = y at cj HS
        go_wp2_with (at_builtin; refine wpList_append_rd _ rfl (.tmp 26) (.tmp 36) _ rfl 68 2 16 i0 _ Tryz.underlying53 hi hz0 hz1 hz2 rfl (by decide) _ k _ _ 1 _ [.int .i64 t, .int .i64 y] rfl (hO.1.alloc _) rfl (W.rd_made (by simp) rfl) rfl (by simp [Value.oneCell']) (by unfold maxLen; omega) (by omega) ?_; intro B7 d7 w7 hrow7 hg7 hv7; rw [← HS.out] at hrow7; obtain ⟨hO7, hK7⟩ := own_after hO.2 (hK.alloc _) hg7 hv7 hrow7; clear hrow7 hg7 hv7)
        go_roundw
        case rel => exact ⟨k + 1, by omega, by go_num, ⟨B7, d7, rfl, hO7⟩, hK7⟩
        case measure => simp [intOf]; omega
      · obtain rfl : k = nb := by omega
        rw [List.take_of_length_le (by rw [HRL.out]; exact Nat.le_refl _)] at hO
        have HO := Lib.hid hO
        clear hO
        go_wp2
        go_ret2
        refine ⟨_, rfl, ?_, keepN HK0.out hkk⟩
        rw [HRL.out]
        exact HO.out.mono (fun j hf _ => Nat.le_trans hw0 hf)

end Go.Proofs.YtbnekeomdhljhaaGreatDoor.F

namespace Go.Proofs.YtbnekeomdhljhaaGreatDoor.F
open Go.RowKit Go.Shelf W
attribute [local go_sem] Oper.semAt_some

/-- The three results lie in cells. -/
def RsC (W : World) (b : Nat) (x y z : Int) : Prop := Blk W b 3 #[.int .i64 x] ∧ Blk W (b + 1) 3 #[.int .i64 y] ∧ Blk W (b + 1 + 1) 32 #[.int .i64 z]
theorem RsC.keep {W W' : World} {b : Nat} {x y z : Int} (h : RsC W b x y z) (hk : Keep NoB W W') : RsC W' b x y z := ⟨h.1.keep hk id, h.2.1.keep hk id, h.2.2.keep hk id⟩
theorem RsC.grown {W W' : World} {row : Option Nat} {b : Nat} {x y z : Int} (h : RsC W b x y z) (hb : W.grownBy W' row) (h0 : some b ≠ row) (h1 : some (b + 1) ≠ row) (h2 : some (b + 1 + 1) ≠ row) : RsC W' b x y z := ⟨h.1.grown hb h0, h.2.1.grown hb h1, h.2.2.grown hb h2⟩
theorem RsC.cells {W : World} {b : Nat} {x y z : Int} (h : RsC W b x y z) : W.cell? ⟨b, 0, none⟩ = some (.int .i64 x) ∧ W.cell? ⟨b + 1, 0, none⟩ = some (.int .i64 y) ∧ W.cell? ⟨b + 1 + 1, 0, none⟩ = some (.int .i64 z) := ⟨h.1.cell 0, h.2.1.cell 0, h.2.2.cell 0⟩
theorem ret3 {tmps : Array Value} {W : World} {b : Nat} {x y z : Int} (h : RsC W b x y z) (h4 : tmps.getD 4 undef = .pointer (some ⟨b, 0, none⟩)) (h5 : tmps.getD 5 undef = .pointer (some ⟨b + 1, 0, none⟩)) (h6 : tmps.getD 6 undef = .pointer (some ⟨b + 1 + 1, 0, none⟩)) :
    (results Tryz.f24 tmps).run Tryz.prog W = .ok (.tuple #[.int .i64 x, .int .i64 y, .int .i64 z]) W := by
  obtain ⟨c0, c1, c2⟩ := h.cells
  simp only [Array.getD_eq_getD_getElem?] at h4 h5 h6
  simp [results, Tryz.results24, go_sem, h4, h5, h6, c0, c1, c2]

theorem RsC.put {W : World} {b : Nat} {x y z : Int} (h : RsC W b x y z) (x' y' z' : Int) :
    RsC (((W.setCell ⟨b, 0, none⟩ (.int .i64 x')).setCell ⟨b + 1, 0, none⟩ (.int .i64 y')).setCell ⟨b + 1 + 1, 0, none⟩ (.int .i64 z')) b x' y' z' :=
  ⟨((h.1.put 0 _).far (p := ⟨b + 1, 0, none⟩) (show b ≠ b + 1 by omega) _).far (p := ⟨b + 1 + 1, 0, none⟩) (show b ≠ b + 1 + 1 by omega) _,
    ((h.2.1.far (p := ⟨b, 0, none⟩) (show b + 1 ≠ b by omega) _).put 0 _).far (p := ⟨b + 1 + 1, 0, none⟩) (show b + 1 ≠ b + 1 + 1 by omega) _,
    ((h.2.2.far (p := ⟨b, 0, none⟩) (show b + 1 + 1 ≠ b by omega) _).far (p := ⟨b + 1, 0, none⟩) (show b + 1 + 1 ≠ b + 1 by omega) _).put 0 _⟩
theorem keep_put3 {w W : World} {b : Nat} (h : Keep NoB w W) (hb : w.heap.size ≤ b) (x y z : Value) : Keep NoB w (((W.setCell ⟨b, 0, none⟩ x).setCell ⟨b + 1, 0, none⟩ y).setCell ⟨b + 1 + 1, 0, none⟩ z) :=
  ((h.setCell (fun h => absurd h (by simp; omega)) x).setCell (fun h => absurd h (by simp; omega)) y).setCell (fun h => absurd h (by simp; omega)) z
/-- What the walk keeps; and what it leaves behind. -/
def sltI (w : World) (b : Nat) (i : Int) (pre : List Nat) (W : World) : Prop := (RsC W b 0 0 0 ∧ Blk W (w.heap.size + 1) 3 #[.int .i64 i]) ∧ Keep NoB w W ∧ ∀ y ∈ pre, (y : Int) ≠ i
def sltX (f : Fu) (w : World) (b : Nat) (i : Int) (c : Code) (pre : List Nat) (W : World) : Prop := c = .ret ∧ ∃ (x : Nat) (q : List Nat), (x : Int) = i ∧ pre = q ++ [x] ∧ RsC W b (wh f x) (ty f x) 0 ∧ Keep NoB w W
theorem blk_ofrom {β : Type} (B g : Nat) (t : TypeId) (cs : Array Value) : OwnFrom B (fun (_ : β) W => Blk W g t cs) := Own.from (blk_own (β := β) g t cs) _
theorem rsc_own {β : Type} (B b : Nat) (x y z : Int) : OwnFrom B (fun (_ : β) W => RsC W b x y z) := OwnFrom.and (blk_ofrom _ _ _ _) (OwnFrom.and (blk_ofrom _ _ _ _) (blk_ofrom _ _ _ _))
theorem sltI_own (w : World) (b B : Nat) (i : Int) (hB : w.heap.size ≤ B) : OwnFrom B (sltI w b i) := by
  rintro s X Y row ⟨⟨h1, h2⟩, h3, h4⟩ hg hr
  exact ⟨⟨rsc_own (β := Unit) B b 0 0 0 () X Y row h1 hg hr, blk_ofrom (β := Unit) B _ _ _ () X Y row h2 hg hr⟩, h3.grown hg (fun g e hl => by have := (hr g e).1; omega), h4⟩
theorem sltX_own (f : Fu) (w : World) (b B : Nat) (i : Int) (c : Code) (hB : w.heap.size ≤ B) : OwnFrom B (sltX f w b i c) := by
  rintro s X Y row ⟨h1, x, q, h2, h3, h4, h5⟩ hg hr
  exact ⟨h1, x, q, h2, h3, rsc_own (β := Unit) B b _ _ _ () X Y row h4 hg hr, h5.grown hg (fun g e hl => by have := (hr g e).1; omega)⟩
/-- The frame when a slot has come. -/
def sltA (v : FV) (b bw : Nat) (i a t : Int) (x Bx : Nat) : Act := { tmps := #[v.val, .int .i64 i, .pointer (some ⟨b, 0, none⟩), .pointer (some ⟨b + 1, 0, none⟩), .pointer (some ⟨b + 1 + 1, 0, none⟩), .pointer (some ⟨b + 1 + 1 + 1, 0, none⟩), .pointer (some ⟨b + 1 + 1 + 1 + 1, 0, none⟩), .int .i64 (x : Int), .pointer (some ⟨Bx, 0, none⟩), v.val, .int .i64 0, .bool false, v.val,
  .func (.func 134) #[] #[.pointer (some ⟨bw + 1, 0, none⟩)], .int .i64 (x : Int), .agg #[.int .i64 a, .int .i64 t], undef, undef, undef, undef, undef, undef, undef], defers := [] }
theorem slot_miss {f : Fu} {i : Int} (h : ∀ y ∈ List.range (sl f).length, (y : Int) ≠ i) : ¬ (okF f = true ∧ 0 ≤ i ∧ i < (sl f).length) := by
  rintro ⟨_, h0, h1⟩
  exact h i.toNat (List.mem_range.2 (by omega)) (by omega)
theorem slot_hit {f : Fu} {i : Int} {k x : Nat} {pre q : List Nat} (ho : okF f = true) (hk : k ≤ (sl f).length) (hp : pre = List.range k) (hq : pre = q ++ [x]) (hx : (x : Int) = i) : slW f i = wh f x ∧ slT f i = ty f x ∧ slE f i = 0 := by
  have hm : x ∈ List.range k := by rw [← hp, hq]; simp
  have := List.mem_range.1 hm
  subst hx
  exact slot_yes ho (by omega)

set_option maxRecDepth 100000 in
set_option maxHeartbeats 8000000 in
theorem slot_any (v : FV) (f : Fu) (i : Int) (w : World) (h : FnAt w v f) (hs : SmF v) (A0 T0 E0 : Int) (hR : Hid (slW f i = A0 ∧ slT f i = T0 ∧ slE f i = E0)) :
    Calls Tryz.prog 24 #[v.val, .int .i64 i] w fun e w' => e = .returned (.tuple #[.int .i64 A0, .int .i64 T0, .int .i64 E0]) ∧ Keep NoB w w' := by
  have bx := Blk.new w 27 v.cells
  have k0 := ((((Keep.refl NoB w).alloc (.cells v.cells 27)).alloc (.cells #[.int .i64 i] 3)).alloc (.cells #[.int .i64 0] 3)).alloc (.cells #[.int .i64 0] 3) |>.alloc (.cells #[.int .i64 0] 32)
  have HF := Lib.hid (h.keepN k0)
  have HX := Lib.hid ((((bx.alloc (.cells #[.int .i64 i] 3)).alloc (.cells #[.int .i64 0] 3)).alloc (.cells #[.int .i64 0] 3)).alloc (.cells #[.int .i64 0] 32))
  have HRC : Hid (RsC (((((w.alloc (.cells v.cells 27)).alloc (.cells #[.int .i64 i] 3)).alloc (.cells #[.int .i64 0] 3)).alloc (.cells #[.int .i64 0] 3)).alloc (.cells #[.int .i64 0] 32)) (w.heap.size + 1 + 1) 0 0 0 ∧
      Blk (((((w.alloc (.cells v.cells 27)).alloc (.cells #[.int .i64 i] 3)).alloc (.cells #[.int .i64 0] 3)).alloc (.cells #[.int .i64 0] 3)).alloc (.cells #[.int .i64 0] 32)) (w.heap.size + 1) 3 #[.int .i64 i]) := by
    have b1 := ((Blk.new (w.alloc (.cells v.cells 27)) 3 #[.int .i64 i]).alloc (.cells #[.int .i64 0] 3)).alloc (.cells #[.int .i64 0] 3) |>.alloc (.cells #[.int .i64 0] 32)
    have b2 := ((Blk.new ((w.alloc (.cells v.cells 27)).alloc (.cells #[.int .i64 i] 3)) 3 #[.int .i64 0]).alloc (.cells #[.int .i64 0] 3)).alloc (.cells #[.int .i64 0] 32)
    have b3 := (Blk.new (((w.alloc (.cells v.cells 27)).alloc (.cells #[.int .i64 i] 3)).alloc (.cells #[.int .i64 0] 3)) 3 #[.int .i64 0]).alloc (.cells #[.int .i64 0] 32)
    have b4 := Blk.new ((((w.alloc (.cells v.cells 27)).alloc (.cells #[.int .i64 i] 3)).alloc (.cells #[.int .i64 0] 3)).alloc (.cells #[.int .i64 0] 3)) 32 #[.int .i64 0]
    simp only [World.size_alloc] at b1 b2 b3 b4
    exact ⟨⟨b2, b3, b4⟩, b1⟩
  have K0 := Lib.hid k0
  cases ho : okF f
  · have HC := Lib.hid (check_any v f _ HF.out hs 70 (chkF_no ho))
    obtain ⟨e1, e2, e3⟩ := slot_no (f := f) (i := i) (by rw [ho]; simp)
    obtain ⟨rfl, rfl, rfl⟩ : 0 = A0 ∧ 0 = T0 ∧ 72 = E0 := ⟨e1.symm.trans hR.out.1, e2.symm.trans hR.out.2.1, e3.symm.trans hR.out.2.2⟩
    obtain ⟨S, A, na, ca, B, nb, cb, L, nl, cl, D, nd, cd⟩ := v
    unfold FV.val FV.cells at *
    obtain ⟨c0, c1, c2, c3, c4⟩ := blk5 (v := ⟨S, A, na, ca, B, nb, cb, L, nl, cl, D, nd, cd⟩) HX.out
    dsimp only at c0 c1 c2 c3 c4
    clear bx h hs ho hR e1 e2 e3 k0 HF
    refine (callsIn_wide (n := 4)).1 ?_
    refine callsIn_of_wp_marks Tryz.func24 rfl trivial ?_ rfl
    simp only [Tryz.ntmps24, List.size_toArray, List.length_cons, List.length_nil, Nat.reduceAdd, Nat.reduceSub, Array.replicate_succ, Array.replicate_zero, List.push_toArray, List.append_toArray, List.nil_append, List.cons_append]
    gi_wp2_with fail
    gi_wp2_with (refine ⟨trivial, ?_⟩; gi_at_call 18; refine (callsIn_wide.2 HC.out).mono ?_; rintro e w1 ⟨rfl, k1⟩; have hr1 := HRC.out.1.keep k1; have fa := hr1.1.frozen 0; have fb := hr1.2.1.frozen 0; have fc := hr1.2.2.frozen 0; obtain ⟨r0, r1, r2⟩ := hr1.cells)
    exact ⟨_, ret3 (hr1.put 0 0 72) rfl rfl rfl, rfl, keep_put3 (keepN K0.out k1) (by omega) _ _ _⟩
  · have HC := Lib.hid (check_any v f _ HF.out hs 0 (chkF_ok ho))
    have hst := Lib.hid (fun m hm bb w hx hr => slots_stops m hm bb v f h.la h.lb h.ll hs w hx hr)
    have HSl := Lib.hid (fun m w => slots_any m v w)
    have HMI := Lib.hid (fun hm => slot_no (slot_miss (f := f) (i := i) hm))
    have HHI := Lib.hid (fun k x pre q hk hp hq hx => slot_hit (f := f) (i := i) (k := k) (x := x) (pre := pre) (q := q) ho hk hp hq hx)
    have HV : Hid (∀ w1, Keep NoB (((((w.alloc (.cells v.cells 27)).alloc (.cells #[.int .i64 i] 3)).alloc (.cells #[.int .i64 0] 3)).alloc (.cells #[.int .i64 0] 3)).alloc (.cells #[.int .i64 0] 32)) w1 →
        sltI w (w.heap.size + 1 + 1) i [] ((w1.alloc (.cells v.cells 27)).alloc (.cells (kindsV v) 180)) ∧
        Ls v f ((w1.alloc (.cells v.cells 27)).alloc (.cells (kindsV v) 180)) ∧
        Blk ((w1.alloc (.cells v.cells 27)).alloc (.cells (kindsV v) 180)) (w1.heap.size + 1) 180 (kindsV v)) := fun w1 hk => by
      have hl := Ls.of (HF.out.keepN hk)
      have hk3 := ((Keep.refl NoB w1).alloc (.cells v.cells 27)).alloc (.cells (kindsV v) 180)
      have bk := Blk.new (w1.alloc (.cells v.cells 27)) 180 (kindsV v)
      have hk4 := keepN hk hk3
      refine ⟨⟨⟨HRC.out.1.keep hk4, HRC.out.2.keep hk4 id⟩, keepN K0.out hk4, fun y hy => absurd hy (by simp)⟩, hl.keepN hk3, ?_⟩
      simpa using bk
    obtain ⟨S, A, na, ca, B, nb, cb, L, nl, cl, D, nd, cd⟩ := v
    unfold FV.val FV.cells at *
    obtain ⟨c0, c1, c2, c3, c4⟩ := blk5 (v := ⟨S, A, na, ca, B, nb, cb, L, nl, cl, D, nd, cd⟩) HX.out
    dsimp only at c0 c1 c2 c3 c4
    clear bx h hs ho k0 HF
    refine (callsIn_wide (n := 4)).1 ?_
    refine callsIn_of_wp_marks Tryz.func24 rfl trivial ?_ rfl
    simp only [Tryz.ntmps24, List.size_toArray, List.length_cons, List.length_nil, Nat.reduceAdd, Nat.reduceSub, Array.replicate_succ, Array.replicate_zero, List.push_toArray, List.append_toArray, List.nil_append, List.cons_append]
    gi_wp2_with fail
    gi_wp2_with (refine ⟨trivial, ?_⟩; gi_at_call 18; refine (callsIn_wide.2 HC.out).mono ?_; rintro e w1 ⟨rfl, k1⟩; have hx1 := HX.out.keep k1 id; obtain ⟨c0, c1, c2, c3, c4⟩ := blk5 (v := ⟨S, A, na, ca, B, nb, cb, L, nl, cl, D, nd, cd⟩) hx1; dsimp only at c0 c1 c2 c3 c4; obtain ⟨hI0, hL0, hP0⟩ := HV.out _ k1; have HI0 := Lib.hid hI0; have HL0 := Lib.hid hL0; have HP0 := Lib.hid hP0; have hKw := keepN K0.out k1; clear hx1 hI0 hL0 hP0 HV HC)
    gi_wp2_with (refine ⟨trivial, ?_⟩; gi_at_call 83; refine (HSl.out _ _).mono ?_; rintro e w' ⟨rfl, rfl⟩)
    have hw1 := K0.out.size
    have hw2 := hKw.size
    simp only [World.size_alloc] at hw1
    have hw3 := k1.size
    simp only [World.size_alloc] at hw3
    refine wpIn_rangeFunc_ownH rfl (by omega) (gf := 134) (lb := #[.pointer (some ⟨w1.heap.size + 1, 0, none⟩)]) rfl trivial (enters_of Tryz.func134 (by kernel_rfl) rfl)
      (hst.out _ (by omega) (w1.heap.size + 1) _ HP0.out HL0.out) (fun h h' => LsK.trans h h') (fun W l o o' _ hl ho _ => LsK.putObj W l o o' hl ho) (Below.refl _ _) (fun _ => rfl)
      (sltI w (w.heap.size + 1 + 1) i) (sltX f w (w.heap.size + 1 + 1) i) (sltI_own w _ _ i (by simp; omega)) (fun c => sltX_own f w _ _ i c (by simp; omega)) HI0.out
      (fun x a' W => ∃ Bx, Blk W Bx 126 #[.int .i64 (wh f x), .int .i64 (ty f x)] ∧ a' = sltA ⟨S, A, na, ca, B, nb, cb, L, nl, cl, D, nd, cd⟩ w.heap.size w1.heap.size i (wh f x) (ty f x) x Bx) ?hax ?assign ?body ?done ?stop
    case hax =>
      rintro x a' s X Y row ⟨Bx, h1, h2⟩ hg hrow
      exact ⟨Bx, blk_own (β := Unit) _ _ _ () _ _ _ h1 hg (fun r e => (hrow r e).2), h2⟩
    case assign =>
      intro l pre x W K hi hK
      have HI := Lib.hid (fun W' hk => sltI_own w (w.heap.size + 1 + 1) w.heap.size i (Nat.le_refl _) pre W W' none hi (Keep.grows hk) (fun r e => by cases e))
      have HB := Lib.hid (Blk.new W 126 #[.int .i64 (wh f x), .int .i64 (ty f x)])
      gi_wp2
      exact hK _ _ (keepsFrom_keep ((Keep.refl NoB W).alloc _)) (fun h => h.keepN ((Keep.refl NoB W).alloc _)) (HI.out _ ((Keep.refl NoB W).alloc _)) ⟨_, HB.out, rfl⟩
    case body =>
      rintro l pre x a' W hl _ ⟨⟨hrs, hbi⟩, hKW, hne⟩ ⟨Bx, hb, rfl⟩ hlt
      have ci : W.cell? ⟨w.heap.size + 1, 0, none⟩ = some (.int .i64 i) := hbi.cell 0
      have cx0 : W.cell? ⟨Bx, 0, none⟩ = some (.int .i64 (wh f x)) := hb.cell 0
      have cx1 : W.cell? ⟨Bx, 1, none⟩ = some (.int .i64 (ty f x)) := hb.cell 1
      have fa := hrs.1.frozen 0
      have fb := hrs.2.1.frozen 0
      have fc := hrs.2.2.frozen 0
      obtain ⟨r0, r1, r2⟩ := hrs.cells
      have hbb : ∀ u, (W.setCell ⟨w.heap.size + 1 + 1, 0, none⟩ u).cell? ⟨Bx, 1, none⟩ = some (.int .i64 (ty f x)) := fun u => (hb.far (p := ⟨w.heap.size + 1 + 1, 0, none⟩) (Blk.ne hb hrs.1 (by decide)) u).cell 1
      by_cases hxi : (x : Int) = i
      · have HXX : Hid (sltX f w (w.heap.size + 1 + 1) i .ret (pre ++ [x]) (((W.drew.setCell ⟨w.heap.size + 1 + 1, 0, none⟩ (.int .i64 (wh f x))).setCell ⟨w.heap.size + 1 + 1 + 1, 0, none⟩ (.int .i64 (ty f x))).setCell ⟨w.heap.size + 1 + 1 + 1 + 1, 0, none⟩ (.int .i64 0))) :=
          ⟨rfl, x, pre, hxi, rfl, RsC.put (W := W.drew) hrs _ _ _, keep_put3 hKW.drew (by omega) _ _ _⟩
        have hq : ((x : Int) == i) = true := by rw [beq_iff_eq]; exact hxi
        clear hxi hrs hbi hKW hne
        generalize ty f x = t at *
        generalize wh f x = a at *
        have hmix : Tryz.prog.follows .mixedOrders = true := by kernel_rfl
        dsimp only [sltA]
        gi_wp2
        gi_region
        all_goals gi_wp2
        all_goals
          refine ⟨⟨?_, ?_⟩, HXX.out⟩
          · simp
          · intro k o hk1 hk2 hk3
            simp only [World.size_alloc] at hk1
            exact (((Below.heap_setCell _ _ _ _ (by show k ≠ w.heap.size + 1 + 1 + 1 + 1; omega)).trans (Below.heap_setCell _ _ _ _ (by show k ≠ w.heap.size + 1 + 1 + 1; omega))).trans (Below.heap_setCell _ _ _ _ (by show k ≠ w.heap.size + 1 + 1; omega))).trans hk2
      · have HXX : Hid (sltI w (w.heap.size + 1 + 1) i (pre ++ [x]) W) := ⟨⟨hrs, hbi⟩, hKW, fun y hy => by
          rcases List.mem_append.1 hy with h | h
          · exact hne y h
          · rw [List.mem_singleton.1 h]; exact hxi⟩
        have hq : ((x : Int) == i) = false := by rw [beq_eq_false_iff_ne]; exact hxi
        clear hxi hrs hbi hKW hne
        generalize ty f x = t at *
        generalize wh f x = a at *
        dsimp only [sltA]
        gi_wp2
        exact ⟨KeepsFrom.refl _ _, id, HXX.out⟩
    case done =>
      rintro D ys W hD rfl ⟨⟨hrs, hbi⟩, hKW, hne⟩ hDf
      obtain ⟨e1, e2, e3⟩ := HMI.out hne
      obtain ⟨rfl, rfl, rfl⟩ : 0 = A0 ∧ 0 = T0 ∧ 72 = E0 := ⟨e1.symm.trans hR.out.1, e2.symm.trans hR.out.2.1, e3.symm.trans hR.out.2.2⟩
      have fa := hrs.1.frozen 0
      have fb := hrs.2.1.frozen 0
      have fc := hrs.2.2.frozen 0
      obtain ⟨r0, r1, r2⟩ := hrs.cells
      have HD : Hid ((((W.setCell ⟨w.heap.size + 1 + 1, 0, none⟩ (.int .i64 0)).setCell ⟨w.heap.size + 1 + 1 + 1, 0, none⟩ (.int .i64 0)).setCell ⟨w.heap.size + 1 + 1 + 1 + 1, 0, none⟩ (.int .i64 72)).heap[D]? = some (.deferred (some []))) := by
        simp only [World.size_alloc] at hD
        exact (((Below.heap_setCell _ _ _ _ (by show D ≠ w.heap.size + 1 + 1 + 1 + 1; omega)).trans (Below.heap_setCell _ _ _ _ (by show D ≠ w.heap.size + 1 + 1 + 1; omega))).trans (Below.heap_setCell _ _ _ _ (by show D ≠ w.heap.size + 1 + 1; omega))).trans hDf
      clear hR e1 e2 e3 hne
      gi_wp2
      refine ⟨by simp, .inl ⟨_, _, rfl, run_takeDeferred HD.out, ?_⟩⟩
      simp only [World.size_alloc] at hD
      exact ⟨_, ret3 ((hrs.put 0 0 72).grown (grownBy_putObj' _ D _) (by simp; omega) (by simp; omega) (by simp; omega)) rfl rfl rfl, rfl, keep_put (keep_put3 hKW (by omega) _ _ _) (by omega)⟩
    case stop =>
      rintro D c pre W hD ⟨k, hk, hp⟩ ⟨rfl, x, q, hx, hq, hrs, hKW⟩ hDf
      obtain ⟨e1, e2, e3⟩ := HHI.out k x pre q hk hp hq hx
      obtain ⟨rfl, rfl, rfl⟩ : wh f x = A0 ∧ ty f x = T0 ∧ 0 = E0 := ⟨e1.symm.trans hR.out.1, e2.symm.trans hR.out.2.1, e3.symm.trans hR.out.2.2⟩
      gi_wp2
      refine ⟨by simp, .inl ⟨_, _, rfl, run_takeDeferred hDf, ?_⟩⟩
      simp only [World.size_alloc] at hD
      exact ⟨_, ret3 (hrs.grown (grownBy_putObj' _ D _) (by simp; omega) (by simp; omega) (by simp; omega)) rfl rfl rfl, rfl, keep_put hKW (by omega)⟩

end Go.Proofs.YtbnekeomdhljhaaGreatDoor.F
