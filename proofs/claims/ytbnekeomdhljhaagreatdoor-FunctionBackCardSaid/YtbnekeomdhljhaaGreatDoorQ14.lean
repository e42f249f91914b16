/-
  A function's slots' values at its begin, and a call's results: what Begin and Results answer. Conditions: the function's lists, and the values, lie in memory, and are no longer than statements go through.
  What the laws' own alive answers: true. No conditions.
  A region that draws its order, by what each of its values is, as in KProps4, but each operation writes a slot of its own, in no order (ds). No program, no conditions.
  A region that draws its order, whose last operations, from number m on, stand behind all that are ahead of them: the first ones are taken by what each of their values is, whatever the order (as in KProps5), the last ones in their order. No program, no conditions.
-/
import Derived.Test.YtbnekeomdhljhaaGreatDoorQ13
import Derived.Test.YtbnekeomdhljhaaGreatDoorQ6
import Derived.Test.YtbnekeomdhljhaaGreatDoorQ9
import Derived.Test.YtbnekeomdhljhaaGreatDoorQ12
namespace Go.Proofs.YtbnekeomdhljhaaGreatDoor.F
open Go.RowKit W

theorem sl_known {f : Fu} (h : okF f = true) : (sl f).all knownB = true := by
  obtain ⟨_, hg, hl, _⟩ := (okF_iff f).1 h
  obtain ⟨_, ha, hr⟩ := (S.okG_iff _ _).1 hg
  unfold sl
  rw [List.all_append, List.all_append, ha, S.all_known hr, hl]; rfl
/-- Values at the begin; a call's results. -/
def begV (f : Fu) (x : List (Int × Int)) : List (Int × Int) := x ++ zs ((sl f).drop x.length)
def resV (f : Fu) (x : List (Int × Int)) : List (Int × Int) := (x.drop f.ar.length).take f.rs.length
def begE (f : Fu) (x : List (Int × Int)) : Int := if okF f = true then (if fitsB f.ar x = true then 0 else 73) else 70
def begL (f : Fu) (x : List (Int × Int)) : List (Int × Int) := if okF f = true ∧ fitsB f.ar x = true then begV f x else []
def resE (f : Fu) (x : List (Int × Int)) : Int := if okF f = true then (if fitsB (sl f) x = true then 0 else 72) else 70
def resL (f : Fu) (x : List (Int × Int)) : List (Int × Int) := if okF f = true ∧ fitsB (sl f) x = true then resV f x else []
theorem beg_1 {f : Fu} (x : List (Int × Int)) (h : okF f = false) : begE f x = 70 ∧ begL f x = [] := ⟨if_neg (by rw [h]; decide), if_neg (by rw [h]; simp)⟩
theorem beg_2 {f : Fu} {x : List (Int × Int)} (h : okF f = true) (h2 : fitsB f.ar x = false) : begE f x = 73 ∧ begL f x = [] := ⟨by unfold begE; rw [if_pos h, if_neg (by rw [h2]; decide)], if_neg (by rw [h2]; simp)⟩
theorem beg_3 {f : Fu} {x : List (Int × Int)} (h : okF f = true) (h2 : fitsB f.ar x = true) : begE f x = 0 ∧ begL f x = begV f x := ⟨by unfold begE; rw [if_pos h, if_pos h2], if_pos ⟨h, h2⟩⟩
theorem res_1 {f : Fu} (x : List (Int × Int)) (h : okF f = false) : resE f x = 70 ∧ resL f x = [] := ⟨if_neg (by rw [h]; decide), if_neg (by rw [h]; simp)⟩
theorem res_2 {f : Fu} {x : List (Int × Int)} (h : okF f = true) (h2 : fitsB (sl f) x = false) : resE f x = 72 ∧ resL f x = [] := ⟨by unfold resE; rw [if_pos h, if_neg (by rw [h2]; decide)], if_neg (by rw [h2]; simp)⟩
theorem res_3 {f : Fu} {x : List (Int × Int)} (h : okF f = true) (h2 : fitsB (sl f) x = true) : resE f x = 0 ∧ resL f x = resV f x := ⟨by unfold resE; rw [if_pos h, if_pos h2], if_pos ⟨h, h2⟩⟩
theorem vvs_drop (l : List (Int × Int)) (k : Nat) : (vvs l).drop (k * 2) = vvs (l.drop k) := by
  induction l generalizing k with
  | nil => simp [vvs]
  | cons x l ih =>
    cases k with
    | zero => simp
    | succ k => rw [vvs_cons, show (k + 1) * 2 = k * 2 + 2 by omega, List.drop_succ_cons]; exact ih k
theorem vvs_take (l : List (Int × Int)) (k : Nat) : (vvs l).take (k * 2) = vvs (l.take k) := by
  induction l generalizing k with
  | nil => simp [vvs]
  | cons x l ih =>
    cases k with
    | zero => simp [vvs]
    | succ k => rw [vvs_cons, show (k + 1) * 2 = k * 2 + 2 by omega, List.take_succ_cons, vvs_cons]; exact congrArg _ (congrArg _ (ih k))
theorem zs_drop (l : List Int) (k : Nat) : (zs l).drop k = zs (l.drop k) := by unfold zs; rw [List.map_drop]
theorem begV_cells (f : Fu) (x : List (Int × Int)) : vvs x ++ (vvs (zs (sl f))).drop (vvs x).length = vvs (begV f x) := by
  unfold begV
  rw [vvs_length, vvs_drop, zs_drop, vvs_append]
theorem ts_len {l : List Int} {x : List (Int × Int)} (h : fitsB l x = true) : l.length = x.length := by
  have := ((fits_true l x).1 h).1
  rw [this]; simp [ts]
theorem begV_len {f : Fu} {x : List (Int × Int)} (h : fitsB f.ar x = true) : (begV f x).length = (sl f).length := by
  have := ts_len h
  unfold begV zs
  rw [List.length_append, List.length_map, List.length_drop, sl_length]; omega
theorem resV_len {f : Fu} {x : List (Int × Int)} (h : fitsB (sl f) x = true) : (resV f x).length = f.rs.length := by
  have := ts_len h
  rw [sl_length] at this
  unfold resV
  rw [List.length_take, List.length_drop]; omega
/-- Values' list lies where another's tail does. -/
theorem rd_part {w : World} {g off a b : Nat} {x : List (Int × Int)} (h : Rd w (some ⟨g, off, none⟩) (vvs x)) (hab : a + b ≤ x.length) : Rd w (some ⟨g, off + a * 2, none⟩) (vvs ((x.drop a).take b)) := fun h0 => by
  refine ⟨_, _, rfl, fun j u hu => ?_⟩
  have hx : 0 < (vvs x).length := by
    rw [vvs_length] at h0 ⊢
    rw [List.length_take, List.length_drop] at h0; omega
  obtain ⟨g', o', e, hc⟩ := h hx
  injection e with e; injection e with e1 e2; subst e1 e2
  rw [← vvs_take, ← vvs_drop] at hu
  have hj : j < b * 2 := by
    rcases Nat.lt_or_ge j (b * 2) with h | h
    · exact h
    · rw [List.getElem?_eq_none (by rw [List.length_take]; omega)] at hu; cases hu
  rw [List.getElem?_take, if_pos hj, List.getElem?_drop] at hu
  have := hc _ _ hu
  rwa [Nat.add_assoc]

set_option maxRecDepth 100000 in
set_option maxHeartbeats 8000000 in
theorem begin_any (v : FV) (f : Fu) (X : Option Addr) (x : List (Int × Int)) (m c : Nat) (w : World) (h : FnAt w v f) (hs : SmF v) (hx : Rd w X (vvs x)) (hm : Hid (x.length = m)) (hm1 : m ≤ 100) :
    Calls Tryz.prog 26 #[v.val, .slice X m c] w fun e w' => ∃ u, e = .returned (.tuple #[u, .int .i64 (begE f x)]) ∧ Own w' 68 2 (Fresh w) u (begL f x).length (vvs (begL f x)) ∧ Keep NoB w w' := by
  have bx := Blk.new w 27 v.cells
  have k0 := (Keep.refl NoB w).alloc (.cells v.cells 27)
  have HF := Lib.hid (h.keepN k0)
  have HX := Lib.hid bx
  have HR := Lib.hid (hx.keepN k0)
  cases ho : okF f
  · have HC := Lib.hid (check_any v f _ HF.out hs 70 (chkF_no ho))
    obtain ⟨e1, e2⟩ := beg_1 x ho
    rw [e1, e2]
    obtain ⟨S, A, na, ca, B, nb, cb, L, nl, cl, D, nd, cd⟩ := v
    unfold FV.val FV.cells at *
    clear bx h hs ho e1 e2 hx
    go_enter Tryz.func26, Tryz.ntmps26
    go_wp2_with fail
    refine HC.out.mono ?_
    rintro e w1 ⟨rfl, k1⟩
    go_wp2
    go_ret2
    exact ⟨_, rfl, Own.nil _ _ _ _, keepN k0 k1⟩
  have HC := Lib.hid (check_any v f _ HF.out hs 0 (chkF_ok ho))
  have HFT := Lib.hid (fun w1 (hk : Keep NoB (w.alloc (.cells v.cells 27)) w1) (R : Bool) hR => fits_any v.A X f.ar x v.na m v.ca c w1 (HF.out.keepN hk).ra (HR.out.keepN hk) h.la hm (by have := hs.na; omega) (by omega) R hR)
  cases hf : fitsB f.ar x
  · have HFT2 := Lib.hid (fun w1 hk => HFT.out w1 hk false hf.symm)
    obtain ⟨e1, e2⟩ := beg_2 ho hf
    rw [e1, e2]
    obtain ⟨S, A, na, ca, B, nb, cb, L, nl, cl, D, nd, cd⟩ := v
    unfold FV.val FV.cells at *
    dsimp only at HFT2
    clear bx h hs ho e1 e2 hx HFT hf
    go_enter Tryz.func26, Tryz.ntmps26
    go_wp2_with fail
    refine HC.out.mono ?_
    rintro e w1 ⟨rfl, k1⟩
    obtain ⟨c0, c1, c2, c3, c4⟩ := blk5 (v := ⟨S, A, na, ca, B, nb, cb, L, nl, cl, D, nd, cd⟩) (HX.out.keep k1 id)
    go_wp2_with fail
    refine (HFT2.out _ k1).mono ?_
    rintro e w2 ⟨rfl, k2⟩
    go_wp2
    go_ret2
    exact ⟨_, rfl, Own.nil _ _ _ _, keepN (keepN k0 k1) k2⟩
  · have HFT2 := Lib.hid (fun w1 hk => HFT.out w1 hk true hf.symm)
    have HT := Lib.hid (fun w1 hk => types_any v f w1 (HF.out.keepN hk) hs)
    obtain ⟨n, hn⟩ : ∃ n, (sl f).length = n := ⟨_, rfl⟩
    have hn3 : n ≤ 300 ∧ m ≤ n := by
      have e1 := ts_len hf
      rw [hm.out, h.la] at e1
      rw [← hn, sl_length, h.la, h.lb, h.ll]; have := hs.na; have := hs.nb; have := hs.nl; omega
    have HZ := Lib.hid (fun A c w hr => zeros_any A (sl f) n c w hr hn (by omega))
    have HKn := Lib.hid (sl_known ho)
    have HB := Lib.hid (begV_cells f x)
    have HBL := Lib.hid ((begV_len hf).trans hn)
    obtain ⟨e1, e2⟩ := beg_3 ho hf
    rw [e1, e2]
    rw [hn] at HT
    have HXL : Hid ((vvs x).length = m * 2) := by show _ = _; rw [vvs_length, hm.out]
    have HV1 := Lib.hid (vvs_one x)
    obtain ⟨S, A, na, ca, B, nb, cb, L, nl, cl, D, nd, cd⟩ := v
    unfold FV.val FV.cells at *
    dsimp only at HFT2
    clear bx h hs ho e1 e2 hx HFT hf hn
    go_enter Tryz.func26, Tryz.ntmps26
    go_wp2_with fail
    refine HC.out.mono ?_
    rintro e w1 ⟨rfl, k1⟩
    obtain ⟨c0, c1, c2, c3, c4⟩ := blk5 (v := ⟨S, A, na, ca, B, nb, cb, L, nl, cl, D, nd, cd⟩) (HX.out.keep k1 id)
    go_wp2_with fail
    refine (HFT2.out _ k1).mono ?_
    rintro e w2 ⟨rfl, k2⟩
    replace k2 := keepN k1 k2
    obtain ⟨c0, c1, c2, c3, c4⟩ := blk5 (v := ⟨S, A, na, ca, B, nb, cb, L, nl, cl, D, nd, cd⟩) (HX.out.keep k2 id)
    go_wp2_with fail
    refine (HT.out _ k2).mono ?_
    rintro e w3 ⟨u, rfl, hO3, k3⟩
    obtain ⟨A3, c3', rfl, _, _, hr3, _⟩ := hO3.form
    replace k3 := keepN k2 k3
    clear hO3 c0 c1 c2 c3 c4
    go_wp2_with fail
    refine (HZ.out _ _ _ hr3).mono ?_
    rintro e w4 ⟨k4, hz⟩
    have hz2 : ∃ Z zc, e = .returned (.tuple #[.slice Z n zc, .int .i64 0]) ∧ Own w4 68 2 (Fresh w3) (.slice Z n zc) n (vvs (zs (sl f))) := by
      rcases hz with ⟨_, h⟩ | ⟨hno, _⟩
      · exact h
      · rw [HKn.out] at hno; cases hno
    obtain ⟨Z, zc, rfl, hO4⟩ := hz2
    clear hz
    have hw3 := (keepN k0 k3).size
    replace k4 := keepN k3 k4
    have hX4 := HR.out.keepN k4
    obtain ⟨w5, hcopy, hO5, hk5⟩ := run_copy_own (P := Tryz.prog) 53 53 3 68 2 (by decide) Tryz.underlying53 (by kernel_rfl) (.slice Z n zc) n _ hO4.1 X m c (vvs x) hX4 HXL.out hn3.2 HV1.out
    rw [HB.out] at hO5
    have hO4b := Lib.hid hO4.2
    have HO5 := Lib.hid hO5
    have HK5 := Lib.hid hk5
    have HK4 := Lib.hid (keepN k0 k4)
    clear hO4 hX4 hO5 hk5 k0 k1 k2 k3 k4 hr3
    go_wp2
    go_ret2
    refine ⟨_, rfl, ⟨by rw [HBL.out]; exact HO5.out, fun g e => Nat.le_trans hw3 (hO4b.out g e)⟩, HK4.out.trans HK5.out (fun b e hl => ?_)⟩
    have := hO4b.out b e
    unfold Fresh at this
    omega

set_option maxRecDepth 100000 in
set_option maxHeartbeats 8000000 in
theorem results_any (v : FV) (f : Fu) (X : Option Addr) (x : List (Int × Int)) (m c : Nat) (w : World) (h : FnAt w v f) (hs : SmF v) (hx : Rd w X (vvs x)) (hm : Hid (x.length = m)) (hm1 : m ≤ 1000) (hc : m ≤ c) :
    Calls Tryz.prog 28 #[v.val, .slice X m c] w fun e w' => ∃ u, e = .returned (.tuple #[u, .int .i64 (resE f x)]) ∧ Own w' 68 2 (Fresh w) u (resL f x).length (vvs (resL f x)) ∧ Keep NoB w w' := by
  have bx := Blk.new w 27 v.cells
  have k0 := (Keep.refl NoB w).alloc (.cells v.cells 27)
  have HF := Lib.hid (h.keepN k0)
  have HX := Lib.hid bx
  have HR := Lib.hid (hx.keepN k0)
  cases ho : okF f
  · have HC := Lib.hid (check_any v f _ HF.out hs 70 (chkF_no ho))
    obtain ⟨e1, e2⟩ := res_1 x ho
    rw [e1, e2]
    obtain ⟨S, A, na, ca, B, nb, cb, L, nl, cl, D, nd, cd⟩ := v
    unfold FV.val FV.cells at *
    clear bx h hs ho e1 e2 hx
    go_enter Tryz.func28, Tryz.ntmps28
    go_wp2_with fail
    refine HC.out.mono ?_
    rintro e w1 ⟨rfl, k1⟩
    go_wp2
    go_ret2
    exact ⟨_, rfl, Own.nil _ _ _ _, keepN k0 k1⟩
  have HC := Lib.hid (check_any v f _ HF.out hs 0 (chkF_ok ho))
  have HT := Lib.hid (fun w1 hk => types_any v f w1 (HF.out.keepN hk) hs)
  obtain ⟨n, hn⟩ : ∃ n, (sl f).length = n := ⟨_, rfl⟩
  have hn3 : n ≤ 300 := by rw [← hn, sl_length, h.la, h.lb, h.ll]; have := hs.na; have := hs.nb; have := hs.nl; omega
  have hn4 : n = v.na + v.nb + v.nl := by rw [← hn, sl_length, h.la, h.lb, h.ll]
  have HFT := Lib.hid (fun A cA w1 (hr : Rd w1 A (ivs (sl f))) (hk : Keep NoB (w.alloc (.cells v.cells 27)) w1) (R : Bool) hR => fits_any A X (sl f) x n m cA c w1 hr (HR.out.keepN hk) hn hm (by omega) (by omega) R hR)
  rw [hn] at HT
  have hna := h.la
  have hnb := h.lb
  cases hf : fitsB (sl f) x
  · have HFT2 := Lib.hid (fun A cA w1 hr hk => HFT.out A cA w1 hr hk false hf.symm)
    obtain ⟨e1, e2⟩ := res_2 ho hf
    rw [e1, e2]
    obtain ⟨S, A, na, ca, B, nb, cb, L, nl, cl, D, nd, cd⟩ := v
    unfold FV.val FV.cells at *
    clear bx h hs ho e1 e2 hx HFT hf hn hna hnb hn4
    go_enter Tryz.func28, Tryz.ntmps28
    go_wp2_with fail
    refine HC.out.mono ?_
    rintro e w1 ⟨rfl, k1⟩
    obtain ⟨c0, c1, c2, c3, c4⟩ := blk5 (v := ⟨S, A, na, ca, B, nb, cb, L, nl, cl, D, nd, cd⟩) (HX.out.keep k1 id)
    go_wp2_with fail
    refine (HT.out _ k1).mono ?_
    rintro e w2 ⟨u, rfl, hO2, k2⟩
    obtain ⟨A3, c3', rfl, _, _, hr3, _⟩ := hO2.form
    replace k2 := keepN k1 k2
    clear hO2 c0 c1 c2 c3 c4
    go_wp2_with fail
    refine (HFT2.out _ _ _ hr3 k2).mono ?_
    rintro e w3 ⟨rfl, k3⟩
    go_wp2
    go_ret2
    exact ⟨_, rfl, Own.nil _ _ _ _, keepN (keepN k0 k2) k3⟩
  · have HFT2 := Lib.hid (fun A cA w1 hr hk => HFT.out A cA w1 hr hk true hf.symm)
    obtain ⟨e1, e2⟩ := res_3 ho hf
    rw [e1, e2]
    have hmn : m = n := by rw [← hn, ← hm.out]; exact (ts_len hf).symm
    have HRL : Hid ((resV f x).length = v.nb) := (resV_len hf).trans hnb
    have hv1 := vvs_one (resV f x)
    have HCl := Lib.hid (fun w A c hr => cloneVals_any w A (vvs (resV f x)) v.nb c hr (by rw [vvs_length, HRL.out]) hv1 (by have := hs.nb; omega))
    -- where the results lie
    have HP : Hid (∀ w1, Keep NoB (w.alloc (.cells v.cells 27)) w1 → ∀ g off, X = some ⟨g, off, none⟩ → Rd w1 (some ⟨g, off + v.na * 2, none⟩) (vvs (resV f x))) := fun w1 hk g off e => by
      have hr := HR.out.keepN hk
      rw [e] at hr
      unfold resV
      rw [hna, hnb]
      exact rd_part hr (by rw [hm.out]; omega)
    have HE : Hid (v.nb = 0 → resV f x = []) := fun e => List.length_eq_zero_iff.1 (by rw [HRL.out, e])
    have hb1 := hs.na
    have hb2 := hs.nb
    by_cases h0 : v.na + v.nb = 0
    · obtain ⟨S, A, na, ca, B, nb, cb, L, nl, cl, D, nd, cd⟩ := v
      dsimp only at h0
      obtain rfl : na = 0 := by omega
      obtain rfl : nb = 0 := by omega
      have hre := HE.out rfl
      unfold FV.val FV.cells at *
      rw [hre] at HCl HRL ⊢
      dsimp only at HCl HRL
      clear bx h hs ho e1 e2 hx HFT hf hn hna hnb HP HE hv1 hn4 hmn h0 hre hb1 hb2
      by_cases hc0 : c = 0
      · subst hc0
        rcases X with _ | ad
        · skip
          go_enter Tryz.func28, Tryz.ntmps28
          go_wp2_with fail
          refine HC.out.mono ?_
          rintro e w1 ⟨rfl, k1⟩
          obtain ⟨c0, c1, c2, c3, c4⟩ := blk5 (v := ⟨S, A, 0, ca, B, 0, cb, L, nl, cl, D, nd, cd⟩) (HX.out.keep k1 id)
          go_wp2_with fail
          refine (HT.out _ k1).mono ?_
          rintro e w2 ⟨u, rfl, hO2, k2⟩
          obtain ⟨A3, c3', rfl, _, _, hr3, _⟩ := hO2.form
          replace k2 := keepN k1 k2
          clear hO2 c0 c1 c2 c3 c4
          go_wp2_with fail
          refine (HFT2.out _ _ _ hr3 k2).mono ?_
          rintro e w3 ⟨rfl, k3⟩
          replace k3 := keepN k2 k3
          obtain ⟨c0, c1, c2, c3, c4⟩ := blk5 (v := ⟨S, A, 0, ca, B, 0, cb, L, nl, cl, D, nd, cd⟩) (HX.out.keep k3 id)
          clear hr3
          go_wp2_with fail
          refine (HCl.out _ _ _ (Rd.none_ _ _)).mono ?_
          rintro e w4 ⟨u4, rfl, hO4, k4⟩
          have HO4 := Lib.hid hO4
          have HK4 := Lib.hid (keepN (keepN k0 k3) k4)
          have hz := (keepN k0 k3).size
          clear hO4 k4 c0 c1 c2 c3 c4
          go_wp2
          go_ret2
          exact ⟨_, rfl, (by first | exact HO4.out | (rw [HRL.out]; exact HO4.out) : Own w4 _ _ (Fresh w3) u4 _ _).mono (fun k hf _ => Nat.le_trans hz hf), HK4.out⟩
        · skip
          go_enter Tryz.func28, Tryz.ntmps28
          go_wp2_with fail
          refine HC.out.mono ?_
          rintro e w1 ⟨rfl, k1⟩
          obtain ⟨c0, c1, c2, c3, c4⟩ := blk5 (v := ⟨S, A, 0, ca, B, 0, cb, L, nl, cl, D, nd, cd⟩) (HX.out.keep k1 id)
          go_wp2_with fail
          refine (HT.out _ k1).mono ?_
          rintro e w2 ⟨u, rfl, hO2, k2⟩
          obtain ⟨A3, c3', rfl, _, _, hr3, _⟩ := hO2.form
          replace k2 := keepN k1 k2
          clear hO2 c0 c1 c2 c3 c4
          go_wp2_with fail
          refine (HFT2.out _ _ _ hr3 k2).mono ?_
          rintro e w3 ⟨rfl, k3⟩
          replace k3 := keepN k2 k3
          obtain ⟨c0, c1, c2, c3, c4⟩ := blk5 (v := ⟨S, A, 0, ca, B, 0, cb, L, nl, cl, D, nd, cd⟩) (HX.out.keep k3 id)
          clear hr3
          go_wp2_with fail
          refine (HCl.out _ _ _ (Rd.none_ _ _)).mono ?_
          rintro e w4 ⟨u4, rfl, hO4, k4⟩
          have HO4 := Lib.hid hO4
          have HK4 := Lib.hid (keepN (keepN k0 k3) k4)
          have hz := (keepN k0 k3).size
          clear hO4 k4 c0 c1 c2 c3 c4
          go_wp2
          go_ret2
          exact ⟨_, rfl, (by first | exact HO4.out | (rw [HRL.out]; exact HO4.out) : Own w4 _ _ (Fresh w3) u4 _ _).mono (fun k hf _ => Nat.le_trans hz hf), HK4.out⟩
      · rcases X with _ | ad
        · skip
          go_enter Tryz.func28, Tryz.ntmps28
          go_wp2_with fail
          refine HC.out.mono ?_
          rintro e w1 ⟨rfl, k1⟩
          obtain ⟨c0, c1, c2, c3, c4⟩ := blk5 (v := ⟨S, A, 0, ca, B, 0, cb, L, nl, cl, D, nd, cd⟩) (HX.out.keep k1 id)
          go_wp2_with fail
          refine (HT.out _ k1).mono ?_
          rintro e w2 ⟨u, rfl, hO2, k2⟩
          obtain ⟨A3, c3', rfl, _, _, hr3, _⟩ := hO2.form
          replace k2 := keepN k1 k2
          clear hO2 c0 c1 c2 c3 c4
          go_wp2_with fail
          refine (HFT2.out _ _ _ hr3 k2).mono ?_
          rintro e w3 ⟨rfl, k3⟩
          replace k3 := keepN k2 k3
          obtain ⟨c0, c1, c2, c3, c4⟩ := blk5 (v := ⟨S, A, 0, ca, B, 0, cb, L, nl, cl, D, nd, cd⟩) (HX.out.keep k3 id)
          clear hr3
          go_wp2_with fail
          refine (HCl.out _ _ _ (Rd.none_ _ _)).mono ?_
          rintro e w4 ⟨u4, rfl, hO4, k4⟩
          have HO4 := Lib.hid hO4
          have HK4 := Lib.hid (keepN (keepN k0 k3) k4)
          have hz := (keepN k0 k3).size
          clear hO4 k4 c0 c1 c2 c3 c4
          go_wp2
          go_ret2
          exact ⟨_, rfl, (by first | exact HO4.out | (rw [HRL.out]; exact HO4.out) : Own w4 _ _ (Fresh w3) u4 _ _).mono (fun k hf _ => Nat.le_trans hz hf), HK4.out⟩
        · skip
          go_enter Tryz.func28, Tryz.ntmps28
          go_wp2_with fail
          refine HC.out.mono ?_
          rintro e w1 ⟨rfl, k1⟩
          obtain ⟨c0, c1, c2, c3, c4⟩ := blk5 (v := ⟨S, A, 0, ca, B, 0, cb, L, nl, cl, D, nd, cd⟩) (HX.out.keep k1 id)
          go_wp2_with fail
          refine (HT.out _ k1).mono ?_
          rintro e w2 ⟨u, rfl, hO2, k2⟩
          obtain ⟨A3, c3', rfl, _, _, hr3, _⟩ := hO2.form
          replace k2 := keepN k1 k2
          clear hO2 c0 c1 c2 c3 c4
          go_wp2_with fail
          refine (HFT2.out _ _ _ hr3 k2).mono ?_
          rintro e w3 ⟨rfl, k3⟩
          replace k3 := keepN k2 k3
          obtain ⟨c0, c1, c2, c3, c4⟩ := blk5 (v := ⟨S, A, 0, ca, B, 0, cb, L, nl, cl, D, nd, cd⟩) (HX.out.keep k3 id)
          clear hr3
          go_wp2_with fail
          refine (HCl.out _ _ _ (Rd.none_ _ _)).mono ?_
          rintro e w4 ⟨u4, rfl, hO4, k4⟩
          have HO4 := Lib.hid hO4
          have HK4 := Lib.hid (keepN (keepN k0 k3) k4)
          have hz := (keepN k0 k3).size
          clear hO4 k4 c0 c1 c2 c3 c4
          go_wp2
          go_ret2
          exact ⟨_, rfl, (by first | exact HO4.out | (rw [HRL.out]; exact HO4.out) : Own w4 _ _ (Fresh w3) u4 _ _).mono (fun k hf _ => Nat.le_trans hz hf), HK4.out⟩
    · have hxp : 0 < (vvs x).length := by rw [vvs_length, hm.out]; omega
      obtain ⟨g, off, rfl, _⟩ := HR.out hxp
      have HP2 := Lib.hid (fun w1 hk => HP.out w1 hk g off rfl)
      obtain ⟨S, A, na, ca, B, nb, cb, L, nl, cl, D, nd, cd⟩ := v
      unfold FV.val FV.cells at *
      dsimp only at hn4 HCl HRL HP2 hb1 hb2 HE
      have q1 : na ≤ c := by omega
      have q2 : na + nb ≤ c := by omega
      by_cases hcn : na = c
      · obtain rfl : nb = 0 := by omega
        have hre := HE.out rfl
        rw [hre] at HCl HRL ⊢
        subst hcn
        clear bx h hs ho e1 e2 hx HFT hf hn hna hnb HP HP2 HE hxp hv1 hn4 hmn h0 hre
        go_enter Tryz.func28, Tryz.ntmps28
        go_wp2_with fail
        refine HC.out.mono ?_
        rintro e w1 ⟨rfl, k1⟩
        obtain ⟨c0, c1, c2, c3, c4⟩ := blk5 (v := ⟨S, A, na, ca, B, 0, cb, L, nl, cl, D, nd, cd⟩) (HX.out.keep k1 id)
        go_wp2_with fail
        refine (HT.out _ k1).mono ?_
        rintro e w2 ⟨u, rfl, hO2, k2⟩
        obtain ⟨A3, c3', rfl, _, _, hr3, _⟩ := hO2.form
        replace k2 := keepN k1 k2
        clear hO2 c0 c1 c2 c3 c4
        go_wp2_with fail
        refine (HFT2.out _ _ _ hr3 k2).mono ?_
        rintro e w3 ⟨rfl, k3⟩
        replace k3 := keepN k2 k3
        obtain ⟨c0, c1, c2, c3, c4⟩ := blk5 (v := ⟨S, A, na, ca, B, 0, cb, L, nl, cl, D, nd, cd⟩) (HX.out.keep k3 id)
        clear hr3
        go_wp2_with fail
        refine (HCl.out _ _ _ (Rd.none_ _ _)).mono ?_
        rintro e w4 ⟨u4, rfl, hO4, k4⟩
        have HO4 := Lib.hid hO4
        have HK4 := Lib.hid (keepN (keepN k0 k3) k4)
        have hz := (keepN k0 k3).size
        clear hO4 k4 c0 c1 c2 c3 c4
        go_wp2
        go_ret2
        exact ⟨_, rfl, (by first | exact HO4.out | (rw [HRL.out]; exact HO4.out) : Own w4 _ _ (Fresh w3) u4 _ _).mono (fun k hf _ => Nat.le_trans hz hf), HK4.out⟩
      · have q3 : na < c := by omega
        clear bx h hs ho e1 e2 hx HFT hf hn hna hnb HP HE hxp hv1 hn4 hmn h0
        go_enter Tryz.func28, Tryz.ntmps28
        go_wp2_with fail
        refine HC.out.mono ?_
        rintro e w1 ⟨rfl, k1⟩
        obtain ⟨c0, c1, c2, c3, c4⟩ := blk5 (v := ⟨S, A, na, ca, B, nb, cb, L, nl, cl, D, nd, cd⟩) (HX.out.keep k1 id)
        go_wp2_with fail
        refine (HT.out _ k1).mono ?_
        rintro e w2 ⟨u, rfl, hO2, k2⟩
        obtain ⟨A3, c3', rfl, _, _, hr3, _⟩ := hO2.form
        replace k2 := keepN k1 k2
        clear hO2 c0 c1 c2 c3 c4
        go_wp2_with fail
        refine (HFT2.out _ _ _ hr3 k2).mono ?_
        rintro e w3 ⟨rfl, k3⟩
        replace k3 := keepN k2 k3
        obtain ⟨c0, c1, c2, c3, c4⟩ := blk5 (v := ⟨S, A, na, ca, B, nb, cb, L, nl, cl, D, nd, cd⟩) (HX.out.keep k3 id)
        clear hr3
        go_wp2_with fail
        refine (HCl.out _ _ _ (HP2.out _ k3)).mono ?_
        rintro e w4 ⟨u4, rfl, hO4, k4⟩
        have HO4 := Lib.hid hO4
        have HK4 := Lib.hid (keepN (keepN k0 k3) k4)
        have hz := (keepN k0 k3).size
        clear hO4 k4 c0 c1 c2 c3 c4
        go_wp2
        go_ret2
        exact ⟨_, rfl, (by first | exact HO4.out | (rw [HRL.out]; exact HO4.out) : Own w4 _ _ (Fresh w3) u4 _ _).mono (fun k hf _ => Nat.le_trans hz hf), HK4.out⟩

end Go.Proofs.YtbnekeomdhljhaaGreatDoor.F

namespace Go.Proofs.YtbnekeomdhljhaaGreatDoor.F
open Go.RowKit W

/-- A list of numbers that is owned, as a slice that reads. -/
theorem own_ivs {w : World} {O : Nat → Prop} {u : Value} {l l' : List Int} {n : Nat} (h : Own w 3 1 O u l.length (ivs l)) (he : l = l') (hn : l'.length = n) : ∃ A c, u = .slice A n c ∧ Rd w A (ivs l') := by
  subst he hn
  obtain ⟨A, c, e, _, _, hr, _⟩ := h.form
  exact ⟨A, c, e, hr⟩
theorem own_vvs {w : World} {O : Nat → Prop} {u : Value} {l l' : List (Int × Int)} {n : Nat} (h : Own w 68 2 O u l.length (vvs l)) (he : l = l') (hn : l'.length = n) : ∃ A c, u = .slice A n c ∧ n ≤ c ∧ Rd w A (vvs l') := by
  subst he hn
  obtain ⟨A, c, e, hc, _, hr, _⟩ := h.form
  exact ⟨A, c, e, hc, hr⟩
theorem slots_lit (f : Fu) (l : List Int) (n : Nat) (v : FV) (w : World) (h : FnV f v w) (he : slF f = l) (hn : l.length = n) : Calls Tryz.prog 31 #[v.val] w fun e w' => ∃ A c, e = .returned (.slice A n c) ∧ Rd w' A (ivs l) ∧ Keep NoB w w' := by
  refine (slotsF_any v f w h.1 h.2).mono ?_
  rintro e w' ⟨u, rfl, hO, hk⟩
  obtain ⟨A, c, rfl, hr⟩ := own_ivs hO he hn
  exact ⟨A, c, rfl, hr, hk⟩
theorem pointers_lit (f : Fu) (l : List Int) (n : Nat) (v : FV) (w : World) (h : FnV f v w) (he : ptZ f = l) (hn : l.length = n) : Calls Tryz.prog 33 #[v.val] w fun e w' => ∃ A c, e = .returned (.slice A n c) ∧ Rd w' A (ivs l) ∧ Keep NoB w w' := by
  refine (pointers_any v f w h.1 h.2).mono ?_
  rintro e w' ⟨u, rfl, hO, hk⟩
  obtain ⟨A, c, rfl, hr⟩ := own_ivs hO he hn
  exact ⟨A, c, rfl, hr, hk⟩
theorem begin_lit (f : Fu) (x l : List (Int × Int)) (E : Int) (n m c : Nat) (X : Option Addr) (v : FV) (w : World) (h : FnV f v w) (hx : Rd w X (vvs x)) (hm : x.length = m) (hm1 : m ≤ 100) (he : begL f x = l ∧ begE f x = E) (hn : l.length = n) :
    Calls Tryz.prog 26 #[v.val, .slice X m c] w fun e w' => ∃ A d, e = .returned (.tuple #[.slice A n d, .int .i64 E]) ∧ n ≤ d ∧ Rd w' A (vvs l) ∧ Keep NoB w w' := by
  obtain ⟨he, rfl⟩ := he
  refine (begin_any v f X x m c w h.1 h.2 hx hm hm1).mono ?_
  rintro e w' ⟨u, rfl, hO, hk⟩
  obtain ⟨A, d, rfl, hc, hr⟩ := own_vvs hO he hn
  exact ⟨A, d, rfl, hc, hr, hk⟩

set_option maxRecDepth 100000 in
set_option maxHeartbeats 8000000 in
theorem alive_any (w : World) : Calls Tryz.prog 38 #[] w fun e w' => e = .returned (.bool true) ∧ Keep NoB w w' := by
  have HS := Lib.hid (fun w => some_any w)
  have HI4 := Lib.hid (fun A1 A2 c1 c2 w h1 h2 => ints_any A1 A2 [1, 4, 2, 3] [1, 4, 2, 3] 4 4 c1 c2 w h1 h2 rfl rfl (by decide) (by decide) true (show _ = _ by simp))
  have HI1 := Lib.hid (fun A1 A2 c1 c2 w h1 h2 => ints_any A1 A2 [1] [1] 1 1 c1 c2 w h1 h2 rfl rfl (by decide) (by decide) true (show _ = _ by simp))
  have HV4 := Lib.hid (fun A1 A2 c1 c2 w h1 h2 => W.same_any A1 A2 [(1, 5), (4, 9), (2, 0), (3, 0)] [(1, 5), (4, 9), (2, 0), (3, 0)] 4 4 c1 c2 w h1 h2 rfl rfl (by decide) (by decide) true (show _ = _ by simp))
  go_enter Tryz.func38, Tryz.ntmps38
  go_wp2_with fail
  refine (HS.out _).mono ?_
  rintro e w1 ⟨v1, rfl, h1, gK⟩
  go_wp2_with fail
  refine (slot_any v1 fSome 2 w1 h1.1 h1.2 2 2 0 (by show _ ∧ _; exact ⟨by kernel_rfl, by kernel_rfl, by kernel_rfl⟩)).mono ?_
  rintro e w2 ⟨rfl, k1⟩
  replace gK := keepN gK k1
  clear k1 h1
  go_wp2_with fail
  refine (HS.out _).mono ?_
  rintro e w3 ⟨v2, rfl, h2, k1⟩
  replace gK := keepN gK k1
  clear k1
  go_wp2_with fail
  refine (slot_any v2 fSome 4 w3 h2.1 h2.2 0 0 72 (by show _ ∧ _; exact ⟨by kernel_rfl, by kernel_rfl, by kernel_rfl⟩)).mono ?_
  rintro e w4 ⟨rfl, k1⟩
  replace gK := keepN gK k1
  clear k1 h2
  go_wp2_with fail
  refine (HS.out _).mono ?_
  rintro e w5 ⟨v3, rfl, h3, k1⟩
  replace gK := keepN gK k1
  clear k1
  have kA := (Keep.refl NoB w5).alloc (.cells #[.int .i64 1, .int .i64 5, .int .i64 4, .int .i64 9] 68)
  go_wp2_with fail
  refine (begin_lit fSome [(1, 5), (4, 9)] [(1, 5), (4, 9), (2, 0), (3, 0)] 0 4 2 _ _ v3 _ (h3.keepN kA) (rd_made rfl rfl) rfl (by decide) ⟨by kernel_rfl, by kernel_rfl⟩ rfl).mono ?_
  rintro e w6 ⟨A6, c6, rfl, _, r6, k1⟩
  replace gK := keepN gK (keepN kA k1)
  clear k1 kA h3
  go_wp2_with fail
  refine (HS.out _).mono ?_
  rintro e w7 ⟨v4, rfl, h4, k1⟩
  replace gK := keepN gK k1
  replace r6 := r6.keepN k1
  clear k1
  have kA := (Keep.refl NoB w7).alloc (.cells #[.int .i64 1, .int .i64 5] 68)
  go_wp2_with fail
  refine (begin_lit fSome [(1, 5)] [] 73 0 1 _ _ v4 _ (h4.keepN kA) (rd_made rfl rfl) rfl (by decide) ⟨by kernel_rfl, by kernel_rfl⟩ rfl).mono ?_
  rintro e w8 ⟨A8, c8, rfl, _, _, k1⟩
  replace gK := keepN gK (keepN kA k1)
  replace r6 := r6.keepN (keepN kA k1)
  clear k1 kA h4
  go_wp2_with fail
  refine (HS.out _).mono ?_
  rintro e w9 ⟨v5, rfl, h5, k1⟩
  replace gK := keepN gK k1
  replace r6 := r6.keepN k1
  clear k1
  go_wp2_with fail
  refine (slots_lit fSome [1, 4, 2, 3] 4 v5 w9 h5 (by kernel_rfl) rfl).mono ?_
  rintro e w10 ⟨A10, c10, rfl, r10, k1⟩
  replace gK := keepN gK k1
  replace r6 := r6.keepN k1
  clear k1 h5
  have kA := (Keep.refl NoB w10).alloc (.cells #[.int .i64 1, .int .i64 4, .int .i64 2, .int .i64 3] 3)
  go_wp2_with fail
  refine (HI4.out _ _ _ _ _ (r10.keepN kA) (rd_made rfl rfl)).mono ?_
  rintro e w11 ⟨rfl, k1⟩
  replace gK := keepN gK (keepN kA k1)
  replace r6 := r6.keepN (keepN kA k1)
  clear k1 kA r10
  go_wp2_with fail
  refine (HS.out _).mono ?_
  rintro e w12 ⟨v6, rfl, h6, k1⟩
  replace gK := keepN gK k1
  replace r6 := r6.keepN k1
  clear k1
  go_wp2_with fail
  refine (pointers_lit fSome [1] 1 v6 w12 h6 (by kernel_rfl) rfl).mono ?_
  rintro e w13 ⟨A13, c13, rfl, r13, k1⟩
  replace gK := keepN gK k1
  replace r6 := r6.keepN k1
  clear k1 h6
  have kA := (Keep.refl NoB w13).alloc (.cells #[.int .i64 1] 3)
  go_wp2_with fail
  refine (HI1.out _ _ _ _ _ (r13.keepN kA) (rd_made rfl rfl)).mono ?_
  rintro e w14 ⟨rfl, k1⟩
  replace gK := keepN gK (keepN kA k1)
  replace r6 := r6.keepN (keepN kA k1)
  clear k1 kA r13
  have kA := (Keep.refl NoB w14).alloc (.cells #[.int .i64 1, .int .i64 5, .int .i64 4, .int .i64 9, .int .i64 2, .int .i64 0, .int .i64 3, .int .i64 0] 68)
  go_wp2_with fail
  refine (HV4.out _ _ _ _ _ (r6.keepN kA) (rd_made rfl rfl)).mono ?_
  rintro e w15 ⟨rfl, k1⟩
  replace gK := keepN gK (keepN kA k1)
  clear k1 kA r6
  go_wp2
  go_ret
  exact ⟨rfl, gK⟩

end Go.Proofs.YtbnekeomdhljhaaGreatDoor.F

namespace Go.Proofs.YtbnekeomdhljhaaGreatDoor
open Go.RowKit
section
variable {P : Program} {md : Region.Mode} {ops : Array Oper}

/-- Number i writes the slot ds i (number c may write none), and stands behind earlier ones alone; no two slots are one. -/
def propsD (ops : Array Oper) (ds : Nat → Nat) (c : Nat) : Bool := (List.range ops.size).all fun i => match ops[i]? with
  | none => false
  | some o => (match o.dst with
    | none => i == c
    | some d => d == ds i) && ((o.after.all fun e => decide (e.on < i)) && (List.range ops.size).all fun j => i == j || !(ds i == ds j))
theorem propsD_at {ds : Nat → Nat} {c : Nat} (h : propsD ops ds c = true) {i : Nat} {o : Oper} (ho : ops[i]? = some o) : (o.dst = some (ds i) ∨ (o.dst = none ∧ i = c)) ∧ (∀ e ∈ o.after, e.on < i) ∧ ∀ j, j < ops.size → j ≠ i → ds j ≠ ds i := by
  have hi := (Array.getElem?_eq_some_iff.1 ho).1
  have h1 := List.all_eq_true.1 h i (List.mem_range.2 hi)
  simp only [ho, Bool.and_eq_true] at h1
  obtain ⟨h1, h3, h4⟩ := h1
  refine ⟨?_, fun e he => ?_, fun j hj hne e => ?_⟩
  · cases hd : o.dst with
    | none => rw [hd] at h1; exact .inr ⟨rfl, by simpa using h1⟩
    | some d => rw [hd] at h1; exact .inl (by simpa using h1)
  · have := Array.all_eq_true_iff_forall_mem.1 h3 e he
    simpa using this
  · have h5 := List.all_eq_true.1 h4 j (List.mem_range.2 hj)
    rw [e] at h5
    simp at h5
    exact hne h5.symm
theorem no_readyD {ds : Nat → Nat} {c : Nat} (hB : propsD ops ds c = true) {listed : Array Bool} (hs : listed.size = ops.size) (hr : Region.ready md ops listed = []) : ∀ i, i < ops.size → listed.getD i true = true := by
  intro i
  induction i using Nat.strongRecOn with
  | ind i ih =>
    intro hi
    cases hl : listed.getD i true
    · have ho : ops[i]? = some ops[i] := Array.getElem?_eq_getElem hi
      have : i ∈ Region.ready md ops listed := mem_ready.2 ⟨hl, ops[i], ho, fun e he _ => by
        have he2 := (propsD_at hB ho).2.1 e he
        have h1 := ih e.on he2 (by omega)
        have h2 : e.on < listed.size := by omega
        simpa [h2] using h1⟩
      rw [hr] at this; cases this
    · rfl
/-- What lies in other slots stays. -/
def FrameD (a0 : Act) (ds : Nat → Nat) (n : Nat) (a : Act) : Prop := a.defers = a0.defers ∧ a.tmps.size = a0.tmps.size ∧ ∀ s, (∀ i, i < n → s ≠ ds i) → a.tmps.getD s undef = a0.tmps.getD s undef
def fitsD (ops : Array Oper) (ds : Nat → Nat) (n : Nat) : Bool := (List.range ops.size).all fun i => ((ops[i]?).bind (·.dst)).isNone || decide (ds i < n)
theorem fitsD_at {ds : Nat → Nat} {n : Nat} (h : fitsD ops ds n = true) {i : Nat} {o : Oper} (ho : ops[i]? = some o) {d : Nat} (hd : o.dst = some d) : ds i < n := by
  have hi := (Array.getElem?_eq_some_iff.1 ho).1
  have h1 := List.all_eq_true.1 h i (List.mem_range.2 hi)
  simpa [ho, hd] using h1
/-- The slots' values put one by one. -/
def fillD (t : Array Value) : List (Nat × Value) → Array Value
  | [] => t
  | x :: vs => fillD (t.setIfInBounds x.1 x.2) vs
theorem fillD_size : ∀ (vs : List (Nat × Value)) (t : Array Value), (fillD t vs).size = t.size
  | [], _ => rfl
  | x :: vs, t => by rw [fillD, fillD_size vs]; simp
theorem fillD_get : ∀ (vs : List (Nat × Value)) (t u : Array Value) (s : Nat), t.size = u.size → (∀ x ∈ vs, x.2 = u.getD x.1 undef) → ((∃ x ∈ vs, x.1 = s) ∨ t.getD s undef = u.getD s undef) → (fillD t vs).getD s undef = u.getD s undef
  | [], _, _, _, _, _, h => by
    rcases h with ⟨x, hx, _⟩ | h
    · cases hx
    · exact h
  | x :: vs, t, u, s, hz, hv, h => by
    rw [fillD]
    refine fillD_get vs _ u s (by simpa using hz) (fun y hy => hv y (List.mem_cons_of_mem _ hy)) ?_
    by_cases e : x.1 = s
    · refine .inr ?_
      have h1 := hv x List.mem_cons_self
      by_cases hs : s < t.size
      · rw [h1, e]
        have hs2 : s < u.size := by omega
        simp [hs]
      · have hs2 : ¬ s < u.size := by omega
        simp [hs, hs2]
    · rcases h with ⟨y, hy, hye⟩ | h
      · rcases List.mem_cons.1 hy with rfl | hy
        · exact absurd hye e
        · exact .inl ⟨y, hy, hye⟩
      · refine .inr ?_
        simp only [Array.getD_eq_getD_getElem?, Array.getElem?_setIfInBounds] at h ⊢
        rw [if_neg e]; exact h
theorem frameD_fill {a0 a : Act} {ds : Nat → Nat} {n : Nat} (h : FrameD a0 ds n a) : a = { tmps := fillD a0.tmps ((List.range n).map fun i => (ds i, a.tmps.getD (ds i) undef)), defers := a0.defers } := by
  obtain ⟨h1, h2, h3⟩ := h
  have e : a.tmps = fillD a0.tmps ((List.range n).map fun i => (ds i, a.tmps.getD (ds i) undef)) := by
    apply Array.ext
    · rw [fillD_size, h2]
    · intro s hs1 hs2
      have := fillD_get ((List.range n).map fun i => (ds i, a.tmps.getD (ds i) undef)) a0.tmps a.tmps s h2.symm (fun x hx => by
        obtain ⟨i, _, rfl⟩ := List.mem_map.1 hx; rfl) (by
        by_cases hc : ∃ i, i < n ∧ ds i = s
        · obtain ⟨i, hi, hie⟩ := hc
          exact .inl ⟨_, List.mem_map.2 ⟨i, List.mem_range.2 hi, rfl⟩, hie⟩
        · exact .inr (h3 s (fun i hi e => hc ⟨i, hi, e.symm⟩)).symm)
      rw [Array.getD_eq_getD_getElem?, Array.getD_eq_getD_getElem?, Array.getElem?_eq_getElem hs2, Array.getElem?_eq_getElem hs1] at this
      simpa using this.symm
  cases a
  simp only at h1 e
  rw [h1, ← e]

theorem frameD_list {a0 a : Act} {l : List Nat} {n : Nat} (hn : n = l.length) (h : FrameD a0 (fun i => l.getD i 0) n a) : a = { tmps := fillD a0.tmps (l.map fun d => (d, a.tmps.getD d undef)), defers := a0.defers } := by
  subst hn
  have h1 := frameD_fill h
  have e : ((List.range l.length).map fun i => (l.getD i 0, a.tmps.getD (l.getD i 0) undef)) = l.map fun d => (d, a.tmps.getD d undef) := by
    apply List.ext_getElem?
    intro i
    by_cases hi : i < l.length
    · rw [List.getElem?_map, List.getElem?_range hi, List.getElem?_map, List.getElem?_eq_getElem hi]
      simp [List.getD, List.getElem?_eq_getElem hi]
    · rw [List.getElem?_eq_none (by simp; omega), List.getElem?_eq_none (by simp; omega)]
  rw [e] at h1
  exact h1

theorem wpAny_props5 {Q : Exit → Act → World → Prop} (ds : Nat → Nat) (c : Nat) (O : Nat → Prop) (late : Nat → Bool) (hB : propsD ops ds c = true) (hLt : lateG md ops c late = true) (S : Nat → Value → World → Prop) (w0 : World) (a0 : Act) (hS1 : ∀ i v w w', i ≠ c → late i = false → Keep O w0 w → S i v w → Keep O w w' → S i v w') (hS2 : ∀ i v w w', Keep O w0 w → S i v w → Keep NoB w w' → S i v w') (hsz : fitsD ops ds a0.tmps.size = true)
    (hstep : ∀ i o (a : Act) (w : World), ops[i]? = some o → i ≠ c → FrameD a0 ds ops.size a → Keep O w0 w → (∀ e ∈ o.after, Region.binds md e = true → S e.on (a.tmps.getD (ds e.on) undef) w) → Does P ops o a w fun u w' => S i u w' ∧ Keep NoB w w')
    (hspec : ∀ o (a : Act) (w : World), ops[c]? = some o → FrameD a0 ds ops.size a → Keep NoB w0 w → (∀ e ∈ o.after, Region.binds md e = true → S e.on (a.tmps.getD (ds e.on) undef) w) → Does P ops o a w fun u w' => (∀ v, (o.dst.isSome = true → v = u) → S c v w') ∧ Keep O w w')
    (hend : ∀ (a : Act) (w : World), FrameD a0 ds ops.size a → Keep O w0 w → (∀ i, i < ops.size → S i (a.tmps.getD (ds i) undef) w) → Q .normal a w) :
    ∀ (fuel : Nat) (listed : Array Bool) (a : Act) (w : World), listed.size = ops.size → (∃ L : List Nat, L.length ≤ fuel ∧ ∀ i, i < ops.size → listed.getD i true = false → i ∈ L) → FrameD a0 ds ops.size a → Keep O w0 w → (listed.getD c true = false → Keep NoB w0 w) → (∀ i, i < ops.size → late i = true → listed.getD i true = true → listed.getD c true = true) →
      (∀ i, i < ops.size → listed.getD i true = true → S i (a.tmps.getD (ds i) undef) w) → wpAny P md ops Q fuel listed a w := by
  have hNO : ∀ {X Y : World}, Keep NoB X Y → Keep O X Y := fun h => h.mono (fun _ hf _ => hf.elim)
  intro fuel
  induction fuel with
  | zero =>
    intro listed a w hs ⟨L, hL, hin⟩ hF hK hC hLa hA
    obtain rfl : L = [] := List.length_eq_zero_iff.1 (by omega)
    have hall : ∀ i, i < ops.size → listed.getD i true = true := fun i hi => by
      cases h : listed.getD i true
      · cases hin i hi h
      · rfl
    refine ⟨?_, hend a w hF hK fun i hi => hA i hi (hall i hi)⟩
    rw [List.eq_nil_iff_forall_not_mem]
    intro i hi
    obtain ⟨h1, o, ho, _⟩ := mem_ready.1 hi
    rw [hall i (Array.getElem?_eq_some_iff.1 ho).1] at h1; cases h1
  | succ fuel ih =>
    intro listed a w hs ⟨L, hL, hin⟩ hF hK hC hLa hA
    refine ⟨fun h0 => hend a w hF hK fun i hi => hA i hi (no_readyD hB hs h0 i hi), fun i hi => ?_⟩
    obtain ⟨h1, o, ho, hall⟩ := mem_ready.1 hi
    have hi' := (Array.getElem?_eq_some_iff.1 ho).1
    obtain ⟨hd, hlt, hdis⟩ := propsD_at hB ho
    have hdeps : ∀ e ∈ o.after, Region.binds md e = true → S e.on (a.tmps.getD (ds e.on) undef) w := fun e he hb => by
      have h2 := hall e he hb
      have h3 := hlt e he
      refine hA e.on (by omega) ?_
      have h4 : e.on < listed.size := by omega
      simpa [h4] using h2
    have hKO : (if i = c then Keep NoB w0 w else True) := by
      split
      · rename_i e; subst e; exact hC h1
      · trivial
    have hdoes : Does P ops o a w fun u w' => (∀ v, (o.dst.isSome = true → v = u) → S i v w') ∧ Keep O w w' ∧ (i ≠ c → Keep NoB w w') := by
      by_cases e : i = c
      · subst e
        rw [if_pos rfl] at hKO
        rcases hspec o a w ho hF hKO hdeps with ⟨hw, hy⟩ | ⟨hw, h2, h3⟩
        · refine .inl ⟨hw, ?_⟩
          unfold yieldsK at hy ⊢
          exact yieldsR_mono (fun u w' ⟨h2, h3⟩ => ⟨h2, h3, fun h => absurd rfl h⟩) _ _ hy
        · exact .inr ⟨hw, h2, h3, fun h => absurd rfl h⟩
      · have hsome : o.dst.isSome = true := by
          rcases hd with h | ⟨_, h⟩
          · rw [h]; rfl
          · exact absurd h e
        rcases hstep i o a w ho e hF hK hdeps with ⟨hw, hy⟩ | ⟨hw, h2, h3⟩
        · refine .inl ⟨hw, ?_⟩
          unfold yieldsK at hy ⊢
          exact yieldsR_mono (fun u w' ⟨h2, h3⟩ => ⟨fun v hv => by rw [hv hsome]; exact h2, hNO h3, fun _ => h3⟩) _ _ hy
        · exact .inr ⟨hw, fun v hv => by rw [hv hsome]; exact h2, hNO h3, fun _ => h3⟩
    have hnext : ∀ u w', (∀ v, (o.dst.isSome = true → v = u) → S i v w') → Keep O w w' → (i ≠ c → Keep NoB w w') → wpAny P md ops Q fuel (listed.setIfInBounds i true) (a.put o.dst u) w' := by
      intro u w' hSu hk hkn
      have hfr : FrameD a0 ds ops.size (a.put o.dst u) ∧ (∀ k, k < ops.size → k ≠ i → (a.put o.dst u).tmps.getD (ds k) undef = a.tmps.getD (ds k) undef) ∧ (o.dst.isSome = true → (a.put o.dst u).tmps.getD (ds i) undef = u) := by
        rcases hd with hd | ⟨hd, _⟩
        · rw [hd]
          have hds : ds i < a.tmps.size := by rw [hF.2.1]; exact fitsD_at hsz ho hd
          have hget : ∀ s, (a.put (some (ds i)) u).tmps.getD s undef = if s = ds i then u else a.tmps.getD s undef := fun s => by
            unfold Act.put
            by_cases e : s = ds i
            · subst e; simp [hds]
            · rw [if_neg e]
              simp only [Array.getD_eq_getD_getElem?, Array.getElem?_setIfInBounds]
              rw [if_neg (fun h => e h.symm)]
          refine ⟨⟨hF.1, by unfold Act.put; simpa using hF.2.1, fun s hs' => ?_⟩, fun k hk' hki => ?_, fun _ => ?_⟩
          · rw [hget, if_neg (hs' i hi')]; exact hF.2.2 s hs'
          · rw [hget, if_neg (hdis k hk' hki)]
          · rw [hget, if_pos rfl]
        · rw [hd]
          exact ⟨hF, fun _ _ _ => rfl, fun h => by cases h⟩
      obtain ⟨hF', hother, hself⟩ := hfr
      refine ih (listed.setIfInBounds i true) _ w' (by simpa using hs) ⟨L.erase i, ?_, fun k hk' hl => ?_⟩ hF' (hK.trans hk (fun _ h _ => h)) (fun hl => ?_) (fun k hk' hlk hl => ?_) fun k hk' hl => ?_
      · rw [List.length_erase_of_mem (hin i hi' h1)]; omega
      · have hki : k ≠ i := by
          rintro rfl
          have : k < listed.size := by omega
          simp [this] at hl
        have hl2 : listed.getD k true = false := by rw [getD_set_ne true (Ne.symm hki)] at hl; exact hl
        exact (List.mem_erase_of_ne hki).2 (hin k hk' hl2)
      · have hci : c ≠ i := by
          rintro rfl
          have : c < listed.size := by omega
          simp [this] at hl
        rw [getD_set_ne true (Ne.symm hci)] at hl
        exact keepN (hC hl) (hkn (Ne.symm hci))
      · have hcl : ∀ n, listed.getD n true = true → (listed.setIfInBounds i true).getD n true = true := fun n hn => by
          by_cases e : i = n
          · subst e
            have h5 : i < listed.size := by omega
            simp [h5]
          · rw [getD_set_ne true e]; exact hn
        by_cases e : k = i
        · subst e
          by_cases ec : k = c
          · rw [← ec]; exact hl
          · obtain ⟨x, hx, hb, h6⟩ := lateG_at hLt ho hlk ec
            have h7 := hall x hx hb
            have h8 := hlt x hx
            have h9 : x.on < listed.size := by omega
            have h10 : listed.getD x.on true = true := by simpa [h9] using h7
            refine hcl c ?_
            rcases h6 with h6 | h6
            · rw [← h6]; exact h10
            · exact hLa x.on (by omega) h6 h10
        · rw [getD_set_ne true (Ne.symm e)] at hl
          exact hcl c (hLa k hk' hlk hl)
      · by_cases e : k = i
        · subst e
          exact hSu _ hself
        · rw [hother k hk' e]
          rw [getD_set_ne true (Ne.symm e)] at hl
          by_cases ec : i = c
          · subst ec
            by_cases hlk : late k = true
            · have := hLa k hk' hlk hl
              rw [h1] at this; cases this
            · exact hS1 k _ _ _ e (by simpa using hlk) hK (hA k hk' hl) hk
          · exact hS2 k _ _ _ hK (hA k hk' hl) (hkn ec)
    unfold wpOp
    simp only [ho]
    rcases hdoes with ⟨hw, hy⟩ | ⟨hw, h2, h3, h4⟩
    · rw [if_pos hw]
      exact .inl (Oper.wp_of_yields hy fun u w' ⟨h2, h3, h4⟩ => hnext u w' h2 h3 h4)
    · rw [if_neg (by rw [hw]; decide)]
      exact hnext undef w h2 h3 h4
theorem wp_region_props5 {id : Nat} {Q : Exit → Act → World → Prop} {a0 : Act} {w : World} (ds : Nat → Nat) (c : Nat) (O : Nat → Prop) (late : Nat → Bool) (hm : P.follows .mixedOrders = true) (hB : propsD ops ds c = true) (hLt : lateG .any ops c late = true) (S : Nat → Value → World → Prop) (hS1 : ∀ i v w1 w', i ≠ c → late i = false → Keep O w w1 → S i v w1 → Keep O w1 w' → S i v w') (hS2 : ∀ i v w1 w', Keep O w w1 → S i v w1 → Keep NoB w1 w' → S i v w') (hsz : fitsD ops ds a0.tmps.size = true)
    (hstep : ∀ i o (a : Act) (w' : World), ops[i]? = some o → i ≠ c → FrameD a0 ds ops.size a → Keep O w w' → (∀ e ∈ o.after, Region.binds .any e = true → S e.on (a.tmps.getD (ds e.on) undef) w') → Does P ops o a w' fun u w'' => S i u w'' ∧ Keep NoB w' w'')
    (hspec : ∀ o (a : Act) (w' : World), ops[c]? = some o → FrameD a0 ds ops.size a → Keep NoB w w' → (∀ e ∈ o.after, Region.binds .any e = true → S e.on (a.tmps.getD (ds e.on) undef) w') → Does P ops o a w' fun u w'' => (∀ v, (o.dst.isSome = true → v = u) → S c v w'') ∧ Keep O w' w'')
    (hend : ∀ (a : Act) (w' : World), FrameD a0 ds ops.size a → Keep O w w' → (∀ i, i < ops.size → S i (a.tmps.getD (ds i) undef) w') → Q .normal a w') : (Code.region id ops true).wp P Q a0 w :=
  wp_region_any hm (wpAny_props5 ds c O late hB hLt S w a0 hS1 hS2 hsz hstep hspec hend _ _ a0 w.drew (by simp) ⟨List.range ops.size, by simp, fun i hi _ => List.mem_range.2 hi⟩ ⟨rfl, rfl, fun _ _ => rfl⟩ (Keep.refl O w).drew (fun _ => (Keep.refl NoB w).drew) (fun i hi _ hl => by simp [hi] at hl) fun i hi hl => by
    simp [hi] at hl)
end
end Go.Proofs.YtbnekeomdhljhaaGreatDoor

namespace Go.Proofs.YtbnekeomdhljhaaGreatDoor
open Go.RowKit
section
variable {P : Program} {md : Region.Mode} {ops : Array Oper}

/-- Each number ahead of j has one behind it, up to j. -/
def allBehind (md : Region.Mode) (ops : Array Oper) (j : Nat) : Bool := (List.range j).all fun i => (List.range (j + 1)).any fun k => decide (i < k) && match ops[k]? with
  | none => false
  | some o => o.after.any fun e => Region.binds md e && e.on == i
/-- So it is with all from m on. -/
def tailG (md : Region.Mode) (ops : Array Oper) (m : Nat) : Bool := (List.range ops.size).all fun j => decide (j < m) || allBehind md ops j
/-- The first m write each a slot of its own, and stand behind earlier ones alone. -/
def headG (ops : Array Oper) (ds : Nat → Nat) (m : Nat) : Bool := (List.range m).all fun i => match ops[i]? with
  | none => false
  | some o => o.dst == some (ds i) && ((o.after.all fun e => decide (e.on < i)) && (List.range m).all fun j => i == j || !(ds i == ds j))
def onlyB (ops : Array Oper) : Bool := (List.range ops.size).all fun i => match ops[i]? with
  | none => false
  | some o => o.after.all fun e => decide (e.on < i)
theorem onlyB_at (h : onlyB ops = true) {i : Nat} {o : Oper} (ho : ops[i]? = some o) : ∀ e ∈ o.after, e.on < i := by
  have hi := (Array.getElem?_eq_some_iff.1 ho).1
  have h1 := List.all_eq_true.1 h i (List.mem_range.2 hi)
  simp only [ho] at h1
  intro e he
  have := Array.all_eq_true_iff_forall_mem.1 h1 e he
  simpa using this
theorem headG_at {ds : Nat → Nat} {m : Nat} (h : headG ops ds m = true) {i : Nat} (hi : i < m) {o : Oper} (ho : ops[i]? = some o) : o.dst = some (ds i) ∧ ∀ j, j < m → j ≠ i → ds j ≠ ds i := by
  have h1 := List.all_eq_true.1 h i (List.mem_range.2 hi)
  simp only [ho, Bool.and_eq_true] at h1
  obtain ⟨h1, _, h4⟩ := h1
  refine ⟨by simpa using h1, fun j hj hne e => ?_⟩
  have h5 := List.all_eq_true.1 h4 j (List.mem_range.2 hj)
  rw [e] at h5
  simp at h5
  exact hne h5.symm
/-- What is listed has all listed that it stands behind. -/
def Closed (md : Region.Mode) (ops : Array Oper) (listed : Array Bool) : Prop := ∀ k o, ops[k]? = some o → listed.getD k true = true → ∀ e ∈ o.after, Region.binds md e = true → listed.getD e.on true = true
theorem behind_all {j : Nat} (h : allBehind md ops j = true) {listed : Array Bool} (hC : Closed md ops listed) {o : Oper} (ho : ops[j]? = some o) (hr : ∀ e ∈ o.after, Region.binds md e = true → listed.getD e.on true = true) : ∀ i, i < j → listed.getD i true = true := by
  have key : ∀ d i, i + d = j → 0 < d → listed.getD i true = true := by
    intro d
    induction d using Nat.strongRecOn with
    | ind d ih =>
      intro i hd h0
      have h1 := List.all_eq_true.1 h i (List.mem_range.2 (by omega))
      obtain ⟨k, hk, h2⟩ := List.any_eq_true.1 h1
      have hk' := List.mem_range.1 hk
      simp only [Bool.and_eq_true, decide_eq_true_eq] at h2
      obtain ⟨hik, h3⟩ := h2
      cases hok : ops[k]? with
      | none => rw [hok] at h3; cases h3
      | some q =>
        rw [hok] at h3
        obtain ⟨x, hx, h4⟩ := Array.any_eq_true.1 h3
        simp only [Bool.and_eq_true, beq_iff_eq] at h4
        obtain ⟨hb, hon⟩ := h4
        by_cases e : k = j
        · subst e
          rw [ho] at hok
          injection hok with hok
          subst hok
          have := hr _ (Array.getElem_mem hx) hb
          rw [hon] at this; exact this
        · have hk2 := ih (j - k) (by omega) k (by omega) (by omega)
          have := hC k q hok hk2 _ (Array.getElem_mem hx) hb
          rw [hon] at this; exact this
  intro i hi
  exact key (j - i) i (by omega) (by omega)
theorem getD_set_self {listed : Array Bool} {i : Nat} (h : i < listed.size) : (listed.setIfInBounds i true).getD i true = true := by simp [h]
theorem getD_set_up {listed : Array Bool} {i n : Nat} (h : listed.getD n true = true) : (listed.setIfInBounds i true).getD n true = true := by
  by_cases e : i = n
  · subst e
    by_cases h5 : i < listed.size
    · simp [h5]
    · simp [h5]
  · rw [getD_set_ne true e]; exact h
theorem closed_set {listed : Array Bool} (hC : Closed md ops listed) {i : Nat} {o : Oper} (ho : ops[i]? = some o) (hr : ∀ e ∈ o.after, Region.binds md e = true → listed.getD e.on true = true) : Closed md ops (listed.setIfInBounds i true) := by
  intro k q hq hl e he hb
  by_cases ek : k = i
  · subst ek
    rw [ho] at hq
    injection hq with hq
    subst hq
    exact getD_set_up (hr e he hb)
  · rw [getD_set_ne true (Ne.symm ek)] at hl
    exact getD_set_up (hC k q hq hl e he hb)
theorem ready_getD {listed : Array Bool} (hB : onlyB ops = true) (hs : listed.size = ops.size) {i : Nat} {o : Oper} (ho : ops[i]? = some o) (hall : ∀ e ∈ o.after, Region.binds md e = true → listed.getD e.on false = true) : ∀ e ∈ o.after, Region.binds md e = true → listed.getD e.on true = true := by
  intro e he hb
  have h2 := hall e he hb
  have h3 := onlyB_at hB ho e he
  have h5 := (Array.getElem?_eq_some_iff.1 ho).1
  have h4 : e.on < listed.size := by omega
  simpa [h4] using h2

/-- The last ones, in their order. -/
theorem wpAny_chain {Q : Exit → Act → World → Prop} {m : Nat} (hB : onlyB ops = true) (hT : tailG md ops m = true) : ∀ (fuel j : Nat) (listed : Array Bool) (a : Act) (w : World), m ≤ j → listed.size = ops.size → ops.size ≤ j + fuel → Closed md ops listed →
    (∀ i, i < j → listed.getD i true = true) → (∀ i, j ≤ i → i < ops.size → listed.getD i true = false) → wpList P ops Q (ops.toList.drop j) a w → wpAny P md ops Q fuel listed a w := by
  intro fuel
  induction fuel with
  | zero =>
    intro j listed a w hm hs hf hC h1 h2 h
    rw [List.drop_eq_nil_of_le (by simpa using hf)] at h
    refine ⟨?_, h⟩
    rw [List.eq_nil_iff_forall_not_mem]
    intro i hi
    obtain ⟨hl, o, ho, _⟩ := mem_ready.1 hi
    rw [h1 i (by have := (Array.getElem?_eq_some_iff.1 ho).1; omega)] at hl; cases hl
  | succ fuel ih =>
    intro j listed a w hm hs hf hC h1 h2 h
    refine ⟨fun h0 => ?_, fun i hi => ?_⟩
    · by_cases hj : j < ops.size
      · have ho : ops[j]? = some ops[j] := Array.getElem?_eq_getElem hj
        have : j ∈ Region.ready md ops listed := mem_ready.2 ⟨h2 j (Nat.le_refl _) hj, ops[j], ho, fun e he _ => by
          have h3 := onlyB_at hB ho e he
          have h4 := h1 e.on h3
          have h5 : e.on < listed.size := by omega
          simpa [h5] using h4⟩
        rw [h0] at this; cases this
      · rw [List.drop_eq_nil_of_le (by simpa using hj)] at h
        exact h
    · obtain ⟨hl, o, ho, hall⟩ := mem_ready.1 hi
      have hi' := (Array.getElem?_eq_some_iff.1 ho).1
      have hr := ready_getD (listed := listed) hB hs ho (fun e he hb => hall e he hb)
      have hji : j ≤ i := by
        rcases Nat.lt_or_ge i j with h5 | h5
        · rw [h1 i h5] at hl; cases hl
        · exact h5
      have hb := List.all_eq_true.1 hT i (List.mem_range.2 hi')
      simp only [Bool.or_eq_true, decide_eq_true_eq] at hb
      have hb : allBehind md ops i = true := hb.resolve_left (by omega)
      have hlt := behind_all hb hC ho hr
      obtain rfl : i = j := by
        rcases Nat.lt_or_eq_of_le hji with h5 | h5
        · have := hlt j h5
          rw [h2 j (Nat.le_refl _) (by omega)] at this; cases this
        · exact h5.symm
      have hd : ops.toList.drop i = o :: ops.toList.drop (i + 1) := by
        have hi2 : i < ops.toList.length := by simpa using hi'
        rw [List.drop_eq_getElem_cons hi2]
        congr 1
        have := (Array.getElem?_eq_some_iff.1 ho).2
        simpa using this
      rw [hd] at h
      have hK : ∀ (a' : Act) (w' : World), wpList P ops Q (ops.toList.drop (i + 1)) a' w' → wpAny P md ops Q fuel (listed.setIfInBounds i true) a' w' := fun a' w' h' =>
        ih (i + 1) _ a' w' (by omega) (by simpa using hs) (by omega) (closed_set hC ho hr) (fun k hk => by
          rcases Nat.lt_succ_iff_lt_or_eq.1 hk with h5 | rfl
          · exact getD_set_up (h1 k h5)
          · exact getD_set_self (by omega)) (fun k hk1 hk2 => by rw [getD_set_ne true (by omega)]; exact h2 k (by omega) hk2) h'
      unfold wpOp
      simp only [ho]
      unfold wpList at h
      split
      · rename_i hw
        rw [if_pos hw] at h
        rcases h with h | h
        · exact .inl (Oper.wp_mono hK h)
        · exact .inr h
      · rename_i hw
        rw [if_neg hw] at h
        exact hK _ _ h

theorem wpAny_tail {Q : Exit → Act → World → Prop} (ds : Nat → Nat) (m : Nat) (hm : m ≤ ops.size) (hO : onlyB ops = true) (hB : headG ops ds m = true) (hT : tailG md ops m = true) (S : Nat → Value → World → Prop) (hS : ∀ i v w w', S i v w → Keep NoB w w' → S i v w') (w0 : World) (a0 : Act) (hsz : fitsD ops ds a0.tmps.size = true)
    (hstep : ∀ i o (a : Act) (w : World), ops[i]? = some o → i < m → FrameD a0 ds m a → Keep NoB w0 w → (∀ e ∈ o.after, Region.binds md e = true → S e.on (a.tmps.getD (ds e.on) undef) w) → Does P ops o a w fun u w' => S i u w' ∧ Keep NoB w w')
    (hend : ∀ (a : Act) (w : World), FrameD a0 ds m a → Keep NoB w0 w → (∀ i, i < m → S i (a.tmps.getD (ds i) undef) w) → wpList P ops Q (ops.toList.drop m) a w) :
    ∀ (fuel : Nat) (listed : Array Bool) (a : Act) (w : World), listed.size = ops.size → (∃ L : List Nat, L.length + (ops.size - m) ≤ fuel ∧ ∀ i, i < m → listed.getD i true = false → i ∈ L) → Closed md ops listed → (∀ i, m ≤ i → i < ops.size → listed.getD i true = false) → FrameD a0 ds m a → Keep NoB w0 w →
      (∀ i, i < m → listed.getD i true = true → S i (a.tmps.getD (ds i) undef) w) → wpAny P md ops Q fuel listed a w := by
  intro fuel
  induction fuel with
  | zero =>
    intro listed a w hs ⟨L, hL, hin⟩ hC hN hF hK hA
    have hall : ∀ i, i < m → listed.getD i true = true := fun i hi => by
      cases h : listed.getD i true
      · have := hin i hi h
        rw [List.length_eq_zero_iff.1 (by omega : L.length = 0)] at this; cases this
      · rfl
    exact wpAny_chain hO hT 0 m listed a w (Nat.le_refl _) hs (by omega) hC hall hN (hend a w hF hK fun i hi => hA i hi (hall i hi))
  | succ fuel ih =>
    intro listed a w hs ⟨L, hL, hin⟩ hC hN hF hK hA
    by_cases hdone : ∀ i, i < m → listed.getD i true = true
    · exact wpAny_chain hO hT (fuel + 1) m listed a w (Nat.le_refl _) hs (by omega) hC hdone hN (hend a w hF hK fun i hi => hA i hi (hdone i hi))
    refine ⟨fun h0 => ?_, fun i hi => ?_⟩
    · refine absurd (fun i => ?_) hdone
      induction i using Nat.strongRecOn with
      | ind i ih2 =>
        intro hi
        cases hl : listed.getD i true
        · have hio : i < ops.size := by omega
          have ho : ops[i]? = some ops[i] := Array.getElem?_eq_getElem hio
          have : i ∈ Region.ready md ops listed := mem_ready.2 ⟨hl, ops[i], ho, fun e he _ => by
            have h3 := onlyB_at hO ho e he
            have h4 := ih2 e.on h3 (by omega)
            have h5 : e.on < listed.size := by omega
            simpa [h5] using h4⟩
          rw [h0] at this; cases this
        · rfl
    · obtain ⟨h1, o, ho, hall⟩ := mem_ready.1 hi
      have hi' := (Array.getElem?_eq_some_iff.1 ho).1
      have hr := ready_getD (listed := listed) hO hs ho (fun e he hb => hall e he hb)
      have him : i < m := by
        rcases Nat.lt_or_ge i m with h5 | h5
        · exact h5
        · have hb := List.all_eq_true.1 hT i (List.mem_range.2 hi')
          simp only [Bool.or_eq_true, decide_eq_true_eq] at hb
          have hb : allBehind md ops i = true := hb.resolve_left (by omega)
          exact absurd (fun k hk => behind_all hb hC ho hr k (by omega)) hdone
      obtain ⟨hd, hdis⟩ := headG_at hB him ho
      have hdoes := hstep i o a w ho him hF hK fun e he hb => hA e.on (by have := onlyB_at hO ho e he; omega) (hr e he hb)
      have hnext : ∀ u w', S i u w' → Keep NoB w w' → wpAny P md ops Q fuel (listed.setIfInBounds i true) (a.put o.dst u) w' := by
        intro u w' hSu hk
        rw [hd]
        have hds : ds i < a.tmps.size := by rw [hF.2.1]; exact fitsD_at hsz ho hd
        have hget : ∀ s, (a.put (some (ds i)) u).tmps.getD s undef = if s = ds i then u else a.tmps.getD s undef := fun s => by
          unfold Act.put
          by_cases e : s = ds i
          · subst e; simp [hds]
          · rw [if_neg e]
            simp only [Array.getD_eq_getD_getElem?, Array.getElem?_setIfInBounds]
            rw [if_neg (fun h => e h.symm)]
        refine ih (listed.setIfInBounds i true) _ w' (by simpa using hs) ⟨L.erase i, ?_, fun k hk' hl => ?_⟩ (closed_set hC ho hr) (fun k hk1 hk2 => by rw [getD_set_ne true (by omega)]; exact hN k hk1 hk2) ⟨hF.1, by unfold Act.put; simpa using hF.2.1, fun s hs' => by rw [hget, if_neg (hs' i him)]; exact hF.2.2 s hs'⟩ (keepN hK hk) fun k hk' hl => ?_
        · have hmem := hin i him h1
          have hpos := List.length_pos_of_mem hmem
          rw [List.length_erase_of_mem hmem]; omega
        · have hki : k ≠ i := by
            rintro rfl
            rw [getD_set_self (by omega)] at hl; cases hl
          rw [getD_set_ne true (Ne.symm hki)] at hl
          exact (List.mem_erase_of_ne hki).2 (hin k hk' hl)
        · by_cases e : k = i
          · subst e
            rw [hget, if_pos rfl]; exact hSu
          · rw [hget, if_neg (hdis k hk' e)]
            exact hS k _ _ _ (hA k hk' (by rw [getD_set_ne true (Ne.symm e)] at hl; exact hl)) hk
      unfold wpOp
      simp only [ho]
      rcases hdoes with ⟨hw, hy⟩ | ⟨hw, h2, h3⟩
      · rw [if_pos hw]
        exact .inl (Oper.wp_of_yields hy fun u w' ⟨h2, h3⟩ => hnext u w' h2 h3)
      · rw [if_neg (by rw [hw]; decide)]
        exact hnext undef w h2 h3
theorem wp_region_tail {id : Nat} {Q : Exit → Act → World → Prop} {a0 : Act} {w : World} (ds : Nat → Nat) (m : Nat) (hf : P.follows .mixedOrders = true) (hm : decide (m ≤ ops.size) = true) (hO : onlyB ops = true) (hB : headG ops ds m = true) (hT : tailG .any ops m = true) (S : Nat → Value → World → Prop) (hS : ∀ i v w1 w', S i v w1 → Keep NoB w1 w' → S i v w') (hsz : fitsD ops ds a0.tmps.size = true)
    (hstep : ∀ i o (a : Act) (w' : World), ops[i]? = some o → i < m → FrameD a0 ds m a → Keep NoB w w' → (∀ e ∈ o.after, Region.binds .any e = true → S e.on (a.tmps.getD (ds e.on) undef) w') → Does P ops o a w' fun u w'' => S i u w'' ∧ Keep NoB w' w'')
    (hend : ∀ (a : Act) (w' : World), FrameD a0 ds m a → Keep NoB w w' → (∀ i, i < m → S i (a.tmps.getD (ds i) undef) w') → wpList P ops Q (ops.toList.drop m) a w') : (Code.region id ops true).wp P Q a0 w :=
  have hm := of_decide_eq_true hm
  wp_region_any hf (wpAny_tail ds m hm hO hB hT S hS w a0 hsz hstep hend _ _ a0 w.drew (by simp) ⟨List.range m, by simp; omega, fun i hi _ => List.mem_range.2 hi⟩ (fun k o hk hl => by
    have := (Array.getElem?_eq_some_iff.1 hk).1
    simp [this] at hl) (fun i _ hi => by simp [hi]) ⟨rfl, rfl, fun _ _ => rfl⟩ (Keep.refl NoB w).drew fun i hi hl => by
    have : i < ops.size := by omega
    simp [this] at hl)
end
end Go.Proofs.YtbnekeomdhljhaaGreatDoor
