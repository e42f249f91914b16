/-
  A function's slots' values at its begin, and a call's results: what Begin and Results answer. Conditions: the function's lists, and the values, lie in memory, and are no longer than statements go through.
  What the laws' own alive answers: true. No conditions.
  An instruction's bytes, and its text, tell it: plain mathematics. No program, no conditions.
  The plain mathematics of reading an instruction from bytes: what is read, and that an instruction's bytes, whatever stands behind them, are read as it was. No program, no conditions.
  The plain mathematics of reading a body: what so many instructions one behind the other are, and what is read of a body's bytes. No program, no conditions.
  The plain mathematics of reading a function: what is read of bytes at a place. No program, no conditions.
  A region that draws its order and has a neck: an operation that waits for all ahead of it, and for which all behind it wait. What lies ahead is walked in an order of one's own choice (KMix); then the neck comes up alone, and may write what was made. No program, no conditions.
-/
import Derived.Lib.Strings
import Derived.StillTail
import Derived.Test.YtbnekeomdhljhaaGreatDoorQ8
import Derived.Test.YtbnekeomdhljhaaGreatDoorQ6
import Derived.Test.YtbnekeomdhljhaaGreatDoorQ7
import Derived.Test.YtbnekeomdhljhaaGreatDoorQ4
import Derived.Test.YtbnekeomdhljhaaGreatDoorQ2
import Derived.Test.YtbnekeomdhljhaaGreatDoorQ3
import Derived.Test.YtbnekeomdhljhaaGreatDoorQ5
namespace Go.Proofs.YtbnekeomdhljhaaGreatDoor.F
open Go.RowKit W

theorem sl_known {f : Fu} (h : okF f = true) : (sl f).all knownB = true := by
  obtain ⟨_, hg, hl, _⟩ := (okF_iff f).1 h
  obtain ⟨_, ha, hr⟩ := (S.okG_iff _ _).1 hg
  unfold sl
  rw [List.all_append, List.all_append, ha, S.all_known hr, hl]; rfl
/-- Values at the begin; a call's results. -/
def begV (f : Fu) (x : List (Int × Int)) : List (Int × Int) := x ++ zs ((sl f).drop x.length)
def resV (f : Fu) (x : List (Int × Int)) : List (Int × Int) := (x.drop f.ar.length).take f.rs.length
def begE (f : Fu) (x : List (Int × Int)) : Int := if okF f = true then (if fitsB f.ar x = true then 0 else 73) else 70
def begL (f : Fu) (x : List (Int × Int)) : List (Int × Int) := if okF f = true ∧ fitsB f.ar x = true then begV f x else []
def resE (f : Fu) (x : List (Int × Int)) : Int := if okF f = true then (if fitsB (sl f) x = true then 0 else 72) else 70
def resL (f : Fu) (x : List (Int × Int)) : List (Int × Int) := if okF f = true ∧ fitsB (sl f) x = true then resV f x else []
theorem beg_1 {f : Fu} (x : List (Int × Int)) (h : okF f = false) : begE f x = 70 ∧ begL f x = [] := ⟨if_neg (by rw [h]; decide), if_neg (by rw [h]; simp)⟩
theorem beg_2 {f : Fu} {x : List (Int × Int)} (h : okF f = true) (h2 : fitsB f.ar x = false) : begE f x = 73 ∧ begL f x = [] := ⟨by unfold begE; rw [if_pos h, if_neg (by rw [h2]; decide)], if_neg (by rw [h2]; simp)⟩
theorem beg_3 {f : Fu} {x : List (Int × Int)} (h : okF f = true) (h2 : fitsB f.ar x = true) : begE f x = 0 ∧ begL f x = begV f x := ⟨by unfold begE; rw [if_pos h, if_pos h2], if_pos ⟨h, h2⟩⟩
theorem res_1 {f : Fu} (x : List (Int × Int)) (h : okF f = false) : resE f x = 70 ∧ resL f x = [] := ⟨if_neg (by rw [h]; decide), if_neg (by rw [h]; simp)⟩
theorem res_2 {f : Fu} {x : List (Int × Int)} (h : okF f = true) (h2 : fitsB (sl f) x = false) : resE f x = 72 ∧ resL f x = [] := ⟨by unfold resE; rw [if_pos h, if_neg (by rw [h2]; decide)], if_neg (by rw [h2]; simp)⟩
theorem res_3 {f : Fu} {x : List (Int × Int)} (h : okF f = true) (h2 : fitsB (sl f) x = true) : resE f x = 0 ∧ resL f x = resV f x := ⟨by unfold resE; rw [if_pos h, if_pos h2], if_pos ⟨h, h2⟩⟩
theorem vvs_drop (l : List (Int × Int)) (k : Nat) : (vvs l).drop (k * 2) = vvs (l.drop k) := by
  induction l generalizing k with
  | nil => simp [vvs]
  | cons x l ih =>
    cases k with
    | zero => simp
    | succ k => rw [vvs_cons, show (k + 1) * 2 = k * 2 + 2 by omega, List.drop_succ_cons]; exact ih k
theorem vvs_take (l : List (Int × Int)) (k : Nat) : (vvs l).take (k * 2) = vvs (l.take k) := by
  induction l generalizing k with
  | nil => simp [vvs]
  | cons x l ih =>
    cases k with
    | zero => simp [vvs]
    | succ k => rw [vvs_cons, show (k + 1) * 2 = k * 2 + 2 by omega, List.take_succ_cons, vvs_cons]; exact congrArg _ (congrArg _ (ih k))
theorem zs_drop (l : List Int) (k : Nat) : (zs l).drop k = zs (l.drop k) := by unfold zs; rw [List.map_drop]
theorem begV_cells (f : Fu) (x : List (Int × Int)) : vvs x ++ (vvs (zs (sl f))).drop (vvs x).length = vvs (begV f x) := by
  unfold begV
  rw [vvs_length, vvs_drop, zs_drop, vvs_append]
theorem ts_len {l : List Int} {x : List (Int × Int)} (h : fitsB l x = true) : l.length = x.length := by
  have := ((fits_true l x).1 h).1
  rw [this]; simp [ts]
theorem begV_len {f : Fu} {x : List (Int × Int)} (h : fitsB f.ar x = true) : (begV f x).length = (sl f).length := by
  have := ts_len h
  unfold begV zs
  rw [List.length_append, List.length_map, List.length_drop, sl_length]; omega
theorem resV_len {f : Fu} {x : List (Int × Int)} (h : fitsB (sl f) x = true) : (resV f x).length = f.rs.length := by
  have := ts_len h
  rw [sl_length] at this
  unfold resV
  rw [List.length_take, List.length_drop]; omega
/-- Values' list lies where another's tail does. -/
theorem rd_part {w : World} {g off a b : Nat} {x : List (Int × Int)} (h : Rd w (some ⟨g, off, none⟩) (vvs x)) (hab : a + b ≤ x.length) : Rd w (some ⟨g, off + a * 2, none⟩) (vvs ((x.drop a).take b)) := fun h0 => by
  refine ⟨_, _, rfl, fun j u hu => ?_⟩
  have hx : 0 < (vvs x).length := by
    rw [vvs_length] at h0 ⊢
    rw [List.length_take, List.length_drop] at h0; omega
  obtain ⟨g', o', e, hc⟩ := h hx
  injection e with e; injection e with e1 e2; subst e1 e2
  rw [← vvs_take, ← vvs_drop] at hu
  have hj : j < b * 2 := by
    rcases Nat.lt_or_ge j (b * 2) with h | h
    · exact h
    · rw [List.getElem?_eq_none (by rw [List.length_take]; omega)] at hu; cases hu
  rw [List.getElem?_take, if_pos hj, List.getElem?_drop] at hu
  have := hc _ _ hu
  rwa [Nat.add_assoc]

set_option maxRecDepth 100000 in
set_option maxHeartbeats 8000000 in
theorem begin_any (v : FV) (f : Fu) (X : Option Addr) (x : List (Int × Int)) (m c : Nat) (w : World) (h : FnAt w v f) (hs : SmF v) (hx : Rd w X (vvs x)) (hm : Hid (x.length = m)) (hm1 : m ≤ 100) :
    Calls Tryz.prog 26 #[v.val, .slice X m c] w fun e w' => ∃ u, e = .returned (.tuple #[u, .int .i64 (begE f x)]) ∧ Own w' 68 2 (Fresh w) u (begL f x).length (vvs (begL f x)) ∧ Keep NoB w w' := by
  have bx := Blk.new w 27 v.cells
  have k0 := (Keep.refl NoB w).alloc (.cells v.cells 27)
  have HF := Lib.hid (h.keepN k0)
  have HX := Lib.hid bx
  have HR := Lib.hid (hx.keepN k0)
  cases ho : okF f
  · have HC := Lib.hid (check_any v f _ HF.out hs 70 (chkF_no ho))
    obtain ⟨e1, e2⟩ := beg_1 x ho
    rw [e1, e2]
    obtain ⟨S, A, na, ca, B, nb, cb, L, nl, cl, D, nd, cd⟩ := v
    unfold FV.val FV.cells at *
    clear bx h hs ho e1 e2 hx
    go_enter Tryz.func26, Tryz.ntmps26
    go_wp2_with fail
    refine HC.out.mono ?_
    rintro e w1 ⟨rfl, k1⟩
    go_wp2
    go_ret2
    exact ⟨_, rfl, Own.nil _ _ _ _, keepN k0 k1⟩
  have HC := Lib.hid (check_any v f _ HF.out hs 0 (chkF_ok ho))
  have HFT := Lib.hid (fun w1 (hk : Keep NoB (w.alloc (.cells v.cells 27)) w1) (R : Bool) hR => fits_any v.A X f.ar x v.na m v.ca c w1 (HF.out.keepN hk).ra (HR.out.keepN hk) h.la hm (by have := hs.na; omega) (by omega) R hR)
  cases hf : fitsB f.ar x
  · have HFT2 := Lib.hid (fun w1 hk => HFT.out w1 hk false hf.symm)
    obtain ⟨e1, e2⟩ := beg_2 ho hf
    rw [e1, e2]
    obtain ⟨S, A, na, ca, B, nb, cb, L, nl, cl, D, nd, cd⟩ := v
    unfold FV.val FV.cells at *
    dsimp only at HFT2
    clear bx h hs ho e1 e2 hx HFT hf
    go_enter Tryz.func26, Tryz.ntmps26
    go_wp2_with fail
    refine HC.out.mono ?_
    rintro e w1 ⟨rfl, k1⟩
    obtain ⟨c0, c1, c2, c3, c4⟩ := blk5 (v := ⟨S, A, na, ca, B, nb, cb, L, nl, cl, D, nd, cd⟩) (HX.out.keep k1 id)
    go_wp2_with fail
    refine (HFT2.out _ k1).mono ?_
    rintro e w2 ⟨rfl, k2⟩
    go_wp2
    go_ret2
    exact ⟨_, rfl, Own.nil _ _ _ _, keepN (keepN k0 k1) k2⟩
  · have HFT2 := Lib.hid (fun w1 hk => HFT.out w1 hk true hf.symm)
    have HT := Lib.hid (fun w1 hk => types_any v f w1 (HF.out.keepN hk) hs)
    obtain ⟨n, hn⟩ : ∃ n, (sl f).length = n := ⟨_, rfl⟩
    have hn3 : n ≤ 300 ∧ m ≤ n := by
      have e1 := ts_len hf
      rw [hm.out, h.la] at e1
      rw [← hn, sl_length, h.la, h.lb, h.ll]; have := hs.na; have := hs.nb; have := hs.nl; omega
    have HZ := Lib.hid (fun A c w hr => zeros_any A (sl f) n c w hr hn (by omega))
    have HKn := Lib.hid (sl_known ho)
    have HB := Lib.hid (begV_cells f x)
    have HBL := Lib.hid ((begV_len hf).trans hn)
    obtain ⟨e1, e2⟩ := beg_3 ho hf
    rw [e1, e2]
    rw [hn] at HT
    have HXL : Hid ((vvs x).length = m * 2) := by show _ = _; rw [vvs_length, hm.out]
    have HV1 := Lib.hid (vvs_one x)
    obtain ⟨S, A, na, ca, B, nb, cb, L, nl, cl, D, nd, cd⟩ := v
    unfold FV.val FV.cells at *
    dsimp only at HFT2
    clear bx h hs ho e1 e2 hx HFT hf hn
    go_enter Tryz.func26, Tryz.ntmps26
    go_wp2_with fail
    refine HC.out.mono ?_
    rintro e w1 ⟨rfl, k1⟩
    obtain ⟨c0, c1, c2, c3, c4⟩ := blk5 (v := ⟨S, A, na, ca, B, nb, cb, L, nl, cl, D, nd, cd⟩) (HX.out.keep k1 id)
    go_wp2_with fail
    refine (HFT2.out _ k1).mono ?_
    rintro e w2 ⟨rfl, k2⟩
    replace k2 := keepN k1 k2
    obtain ⟨c0, c1, c2, c3, c4⟩ := blk5 (v := ⟨S, A, na, ca, B, nb, cb, L, nl, cl, D, nd, cd⟩) (HX.out.keep k2 id)
    go_wp2_with fail
    refine (HT.out _ k2).mono ?_
    rintro e w3 ⟨u, rfl, hO3, k3⟩
    obtain ⟨A3, c3', rfl, _, _, hr3, _⟩ := hO3.form
    replace k3 := keepN k2 k3
    clear hO3 c0 c1 c2 c3 c4
    go_wp2_with fail
    refine (HZ.out _ _ _ hr3).mono ?_
    rintro e w4 ⟨k4, hz⟩
    have hz2 : ∃ Z zc, e = .returned (.tuple #[.slice Z n zc, .int .i64 0]) ∧ Own w4 68 2 (Fresh w3) (.slice Z n zc) n (vvs (zs (sl f))) := by
      rcases hz with ⟨_, h⟩ | ⟨hno, _⟩
      · exact h
      · rw [HKn.out] at hno; cases hno
    obtain ⟨Z, zc, rfl, hO4⟩ := hz2
    clear hz
    have hw3 := (keepN k0 k3).size
    replace k4 := keepN k3 k4
    have hX4 := HR.out.keepN k4
    obtain ⟨w5, hcopy, hO5, hk5⟩ := run_copy_own (P := Tryz.prog) 53 53 3 68 2 (by decide) Tryz.underlying53 (by kernel_rfl) (.slice Z n zc) n _ hO4.1 X m c (vvs x) hX4 HXL.out hn3.2 HV1.out
    rw [HB.out] at hO5
    have hO4b := Lib.hid hO4.2
    have HO5 := Lib.hid hO5
    have HK5 := Lib.hid hk5
    have HK4 := Lib.hid (keepN k0 k4)
    clear hO4 hX4 hO5 hk5 k0 k1 k2 k3 k4 hr3
    go_wp2
    go_ret2
    refine ⟨_, rfl, ⟨by rw [HBL.out]; exact HO5.out, fun g e => Nat.le_trans hw3 (hO4b.out g e)⟩, HK4.out.trans HK5.out (fun b e hl => ?_)⟩
    have := hO4b.out b e
    unfold Fresh at this
    omega

set_option maxRecDepth 100000 in
set_option maxHeartbeats 8000000 in
theorem results_any (v : FV) (f : Fu) (X : Option Addr) (x : List (Int × Int)) (m c : Nat) (w : World) (h : FnAt w v f) (hs : SmF v) (hx : Rd w X (vvs x)) (hm : Hid (x.length = m)) (hm1 : m ≤ 1000) (hc : m ≤ c) :
    Calls Tryz.prog 28 #[v.val, .slice X m c] w fun e w' => ∃ u, e = .returned (.tuple #[u, .int .i64 (resE f x)]) ∧ Own w' 68 2 (Fresh w) u (resL f x).length (vvs (resL f x)) ∧ Keep NoB w w' := by
  have bx := Blk.new w 27 v.cells
  have k0 := (Keep.refl NoB w).alloc (.cells v.cells 27)
  have HF := Lib.hid (h.keepN k0)
  have HX := Lib.hid bx
  have HR := Lib.hid (hx.keepN k0)
  cases ho : okF f
  · have HC := Lib.hid (check_any v f _ HF.out hs 70 (chkF_no ho))
    obtain ⟨e1, e2⟩ := res_1 x ho
    rw [e1, e2]
    obtain ⟨S, A, na, ca, B, nb, cb, L, nl, cl, D, nd, cd⟩ := v
    unfold FV.val FV.cells at *
    clear bx h hs ho e1 e2 hx
    go_enter Tryz.func28, Tryz.ntmps28
    go_wp2_with fail
    refine HC.out.mono ?_
    rintro e w1 ⟨rfl, k1⟩
    go_wp2
    go_ret2
    exact ⟨_, rfl, Own.nil _ _ _ _, keepN k0 k1⟩
  have HC := Lib.hid (check_any v f _ HF.out hs 0 (chkF_ok ho))
  have HT := Lib.hid (fun w1 hk => types_any v f w1 (HF.out.keepN hk) hs)
  obtain ⟨n, hn⟩ : ∃ n, (sl f).length = n := ⟨_, rfl⟩
  have hn3 : n ≤ 300 := by rw [← hn, sl_length, h.la, h.lb, h.ll]; have := hs.na; have := hs.nb; have := hs.nl; omega
  have hn4 : n = v.na + v.nb + v.nl := by rw [← hn, sl_length, h.la, h.lb, h.ll]
  have HFT := Lib.hid (fun A cA w1 (hr : Rd w1 A (ivs (sl f))) (hk : Keep NoB (w.alloc (.cells v.cells 27)) w1) (R : Bool) hR => fits_any A X (sl f) x n m cA c w1 hr (HR.out.keepN hk) hn hm (by omega) (by omega) R hR)
  rw [hn] at HT
  have hna := h.la
  have hnb := h.lb
  cases hf : fitsB (sl f) x
  · have HFT2 := Lib.hid (fun A cA w1 hr hk => HFT.out A cA w1 hr hk false hf.symm)
    obtain ⟨e1, e2⟩ := res_2 ho hf
    rw [e1, e2]
    obtain ⟨S, A, na, ca, B, nb, cb, L, nl, cl, D, nd, cd⟩ := v
    unfold FV.val FV.cells at *
    clear bx h hs ho e1 e2 hx HFT hf hn hna hnb hn4
    go_enter Tryz.func28, Tryz.ntmps28
    go_wp2_with fail
    refine HC.out.mono ?_
    rintro e w1 ⟨rfl, k1⟩
    obtain ⟨c0, c1, c2, c3, c4⟩ := blk5 (v := ⟨S, A, na, ca, B, nb, cb, L, nl, cl, D, nd, cd⟩) (HX.out.keep k1 id)
    go_wp2_with fail
    refine (HT.out _ k1).mono ?_
    rintro e w2 ⟨u, rfl, hO2, k2⟩
    obtain ⟨A3, c3', rfl, _, _, hr3, _⟩ := hO2.form
    replace k2 := keepN k1 k2
    clear hO2 c0 c1 c2 c3 c4
    go_wp2_with fail
    refine (HFT2.out _ _ _ hr3 k2).mono ?_
    rintro e w3 ⟨rfl, k3⟩
    go_wp2
    go_ret2
    exact ⟨_, rfl, Own.nil _ _ _ _, keepN (keepN k0 k2) k3⟩
  · have HFT2 := Lib.hid (fun A cA w1 hr hk => HFT.out A cA w1 hr hk true hf.symm)
    obtain ⟨e1, e2⟩ := res_3 ho hf
    rw [e1, e2]
    have hmn : m = n := by rw [← hn, ← hm.out]; exact (ts_len hf).symm
    have HRL : Hid ((resV f x).length = v.nb) := (resV_len hf).trans hnb
    have hv1 := vvs_one (resV f x)
    have HCl := Lib.hid (fun w A c hr => cloneVals_any w A (vvs (resV f x)) v.nb c hr (by rw [vvs_length, HRL.out]) hv1 (by have := hs.nb; omega))
    -- where the results lie
    have HP : Hid (∀ w1, Keep NoB (w.alloc (.cells v.cells 27)) w1 → ∀ g off, X = some ⟨g, off, none⟩ → Rd w1 (some ⟨g, off + v.na * 2, none⟩) (vvs (resV f x))) := fun w1 hk g off e => by
      have hr := HR.out.keepN hk
      rw [e] at hr
      unfold resV
      rw [hna, hnb]
      exact rd_part hr (by rw [hm.out]; omega)
    have HE : Hid (v.nb = 0 → resV f x = []) := fun e => List.length_eq_zero_iff.1 (by rw [HRL.out, e])
    have hb1 := hs.na
    have hb2 := hs.nb
    by_cases h0 : v.na + v.nb = 0
    · obtain ⟨S, A, na, ca, B, nb, cb, L, nl, cl, D, nd, cd⟩ := v
      dsimp only at h0
      obtain rfl : na = 0 := by omega
      obtain rfl : nb = 0 := by omega
      have hre := HE.out rfl
      unfold FV.val FV.cells at *
      rw [hre] at HCl HRL ⊢
      dsimp only at HCl HRL
      clear bx h hs ho e1 e2 hx HFT hf hn hna hnb HP HE hv1 hn4 hmn h0 hre hb1 hb2
      by_cases hc0 : c = 0
      · subst hc0
        rcases X with _ | ad
        · skip
          go_enter Tryz.func28, Tryz.ntmps28
          go_wp2_with fail
          refine HC.out.mono ?_
          rintro e w1 ⟨rfl, k1⟩
          obtain ⟨c0, c1, c2, c3, c4⟩ := blk5 (v := ⟨S, A, 0, ca, B, 0, cb, L, nl, cl, D, nd, cd⟩) (HX.out.keep k1 id)
          go_wp2_with fail
          refine (HT.out _ k1).mono ?_
          rintro e w2 ⟨u, rfl, hO2, k2⟩
          obtain ⟨A3, c3', rfl, _, _, hr3, _⟩ := hO2.form
          replace k2 := keepN k1 k2
          clear hO2 c0 c1 c2 c3 c4
          go_wp2_with fail
          refine (HFT2.out _ _ _ hr3 k2).mono ?_
          rintro e w3 ⟨rfl, k3⟩
          replace k3 := keepN k2 k3
          obtain ⟨c0, c1, c2, c3, c4⟩ := blk5 (v := ⟨S, A, 0, ca, B, 0, cb, L, nl, cl, D, nd, cd⟩) (HX.out.keep k3 id)
          clear hr3
          go_wp2_with fail
          refine (HCl.out _ _ _ (Rd.none_ _ _)).mono ?_
          rintro e w4 ⟨u4, rfl, hO4, k4⟩
          have HO4 := Lib.hid hO4
          have HK4 := Lib.hid (keepN (keepN k0 k3) k4)
          have hz := (keepN k0 k3).size
          clear hO4 k4 c0 c1 c2 c3 c4
          go_wp2
          go_ret2
          exact ⟨_, rfl, (by first | exact HO4.out | (rw [HRL.out]; exact HO4.out) : Own w4 _ _ (Fresh w3) u4 _ _).mono (fun k hf _ => Nat.le_trans hz hf), HK4.out⟩
        · skip
          go_enter Tryz.func28, Tryz.ntmps28
          go_wp2_with fail
          refine HC.out.mono ?_
          rintro e w1 ⟨rfl, k1⟩
          obtain ⟨c0, c1, c2, c3, c4⟩ := blk5 (v := ⟨S, A, 0, ca, B, 0, cb, L, nl, cl, D, nd, cd⟩) (HX.out.keep k1 id)
          go_wp2_with fail
          refine (HT.out _ k1).mono ?_
          rintro e w2 ⟨u, rfl, hO2, k2⟩
          obtain ⟨A3, c3', rfl, _, _, hr3, _⟩ := hO2.form
          replace k2 := keepN k1 k2
          clear hO2 c0 c1 c2 c3 c4
          go_wp2_with fail
          refine (HFT2.out _ _ _ hr3 k2).mono ?_
          rintro e w3 ⟨rfl, k3⟩
          replace k3 := keepN k2 k3
          obtain ⟨c0, c1, c2, c3, c4⟩ := blk5 (v := ⟨S, A, 0, ca, B, 0, cb, L, nl, cl, D, nd, cd⟩) (HX.out.keep k3 id)
          clear hr3
          go_wp2_with fail
          refine (HCl.out _ _ _ (Rd.none_ _ _)).mono ?_
          rintro e w4 ⟨u4, rfl, hO4, k4⟩
          have HO4 := Lib.hid hO4
          have HK4 := Lib.hid (keepN (keepN k0 k3) k4)
          have hz := (keepN k0 k3).size
          clear hO4 k4 c0 c1 c2 c3 c4
          go_wp2
          go_ret2
          exact ⟨_, rfl, (by first | exact HO4.out | (rw [HRL.out]; exact HO4.out) : Own w4 _ _ (Fresh w3) u4 _ _).mono (fun k hf _ => Nat.le_trans hz hf), HK4.out⟩
      · rcases X with _ | ad
        · skip
          go_enter Tryz.func28, Tryz.ntmps28
          go_wp2_with fail
          refine HC.out.mono ?_
          rintro e w1 ⟨rfl, k1⟩
          obtain ⟨c0, c1, c2, c3, c4⟩ := blk5 (v := ⟨S, A, 0, ca, B, 0, cb, L, nl, cl, D, nd, cd⟩) (HX.out.keep k1 id)
          go_wp2_with fail
          refine (HT.out _ k1).mono ?_
          rintro e w2 ⟨u, rfl, hO2, k2⟩
          obtain ⟨A3, c3', rfl, _, _, hr3, _⟩ := hO2.form
          replace k2 := keepN k1 k2
          clear hO2 c0 c1 c2 c3 c4
          go_wp2_with fail
          refine (HFT2.out _ _ _ hr3 k2).mono ?_
          rintro e w3 ⟨rfl, k3⟩
          replace k3 := keepN k2 k3
          obtain ⟨c0, c1, c2, c3, c4⟩ := blk5 (v := ⟨S, A, 0, ca, B, 0, cb, L, nl, cl, D, nd, cd⟩) (HX.out.keep k3 id)
          clear hr3
          go_wp2_with fail
          refine (HCl.out _ _ _ (Rd.none_ _ _)).mono ?_
          rintro e w4 ⟨u4, rfl, hO4, k4⟩
          have HO4 := Lib.hid hO4
          have HK4 := Lib.hid (keepN (keepN k0 k3) k4)
          have hz := (keepN k0 k3).size
          clear hO4 k4 c0 c1 c2 c3 c4
          go_wp2
          go_ret2
          exact ⟨_, rfl, (by first | exact HO4.out | (rw [HRL.out]; exact HO4.out) : Own w4 _ _ (Fresh w3) u4 _ _).mono (fun k hf _ => Nat.le_trans hz hf), HK4.out⟩
        · skip
          go_enter Tryz.func28, Tryz.ntmps28
          go_wp2_with fail
          refine HC.out.mono ?_
          rintro e w1 ⟨rfl, k1⟩
          obtain ⟨c0, c1, c2, c3, c4⟩ := blk5 (v := ⟨S, A, 0, ca, B, 0, cb, L, nl, cl, D, nd, cd⟩) (HX.out.keep k1 id)
          go_wp2_with fail
          refine (HT.out _ k1).mono ?_
          rintro e w2 ⟨u, rfl, hO2, k2⟩
          obtain ⟨A3, c3', rfl, _, _, hr3, _⟩ := hO2.form
          replace k2 := keepN k1 k2
          clear hO2 c0 c1 c2 c3 c4
          go_wp2_with fail
          refine (HFT2.out _ _ _ hr3 k2).mono ?_
          rintro e w3 ⟨rfl, k3⟩
          replace k3 := keepN k2 k3
          obtain ⟨c0, c1, c2, c3, c4⟩ := blk5 (v := ⟨S, A, 0, ca, B, 0, cb, L, nl, cl, D, nd, cd⟩) (HX.out.keep k3 id)
          clear hr3
          go_wp2_with fail
          refine (HCl.out _ _ _ (Rd.none_ _ _)).mono ?_
          rintro e w4 ⟨u4, rfl, hO4, k4⟩
          have HO4 := Lib.hid hO4
          have HK4 := Lib.hid (keepN (keepN k0 k3) k4)
          have hz := (keepN k0 k3).size
          clear hO4 k4 c0 c1 c2 c3 c4
          go_wp2
          go_ret2
          exact ⟨_, rfl, (by first | exact HO4.out | (rw [HRL.out]; exact HO4.out) : Own w4 _ _ (Fresh w3) u4 _ _).mono (fun k hf _ => Nat.le_trans hz hf), HK4.out⟩
    · have hxp : 0 < (vvs x).length := by rw [vvs_length, hm.out]; omega
      obtain ⟨g, off, rfl, _⟩ := HR.out hxp
      have HP2 := Lib.hid (fun w1 hk => HP.out w1 hk g off rfl)
      obtain ⟨S, A, na, ca, B, nb, cb, L, nl, cl, D, nd, cd⟩ := v
      unfold FV.val FV.cells at *
      dsimp only at hn4 HCl HRL HP2 hb1 hb2 HE
      have q1 : na ≤ c := by omega
      have q2 : na + nb ≤ c := by omega
      by_cases hcn : na = c
      · obtain rfl : nb = 0 := by omega
        have hre := HE.out rfl
        rw [hre] at HCl HRL ⊢
        subst hcn
        clear bx h hs ho e1 e2 hx HFT hf hn hna hnb HP HP2 HE hxp hv1 hn4 hmn h0 hre
        go_enter Tryz.func28, Tryz.ntmps28
        go_wp2_with fail
        refine HC.out.mono ?_
        rintro e w1 ⟨rfl, k1⟩
        obtain ⟨c0, c1, c2, c3, c4⟩ := blk5 (v := ⟨S, A, na, ca, B, 0, cb, L, nl, cl, D, nd, cd⟩) (HX.out.keep k1 id)
        go_wp2_with fail
        refine (HT.out _ k1).mono ?_
        rintro e w2 ⟨u, rfl, hO2, k2⟩
        obtain ⟨A3, c3', rfl, _, _, hr3, _⟩ := hO2.form
        replace k2 := keepN k1 k2
        clear hO2 c0 c1 c2 c3 c4
        go_wp2_with fail
        refine (HFT2.out _ _ _ hr3 k2).mono ?_
        rintro e w3 ⟨rfl, k3⟩
        replace k3 := keepN k2 k3
        obtain ⟨c0, c1, c2, c3, c4⟩ := blk5 (v := ⟨S, A, na, ca, B, 0, cb, L, nl, cl, D, nd, cd⟩) (HX.out.keep k3 id)
        clear hr3
        go_wp2_with fail
        refine (HCl.out _ _ _ (Rd.none_ _ _)).mono ?_
        rintro e w4 ⟨u4, rfl, hO4, k4⟩
        have HO4 := Lib.hid hO4
        have HK4 := Lib.hid (keepN (keepN k0 k3) k4)
        have hz := (keepN k0 k3).size
        clear hO4 k4 c0 c1 c2 c3 c4
        go_wp2
        go_ret2
        exact ⟨_, rfl, (by first | exact HO4.out | (rw [HRL.out]; exact HO4.out) : Own w4 _ _ (Fresh w3) u4 _ _).mono (fun k hf _ => Nat.le_trans hz hf), HK4.out⟩
      · have q3 : na < c := by omega
        clear bx h hs ho e1 e2 hx HFT hf hn hna hnb HP HE hxp hv1 hn4 hmn h0
        go_enter Tryz.func28, Tryz.ntmps28
        go_wp2_with fail
        refine HC.out.mono ?_
        rintro e w1 ⟨rfl, k1⟩
        obtain ⟨c0, c1, c2, c3, c4⟩ := blk5 (v := ⟨S, A, na, ca, B, nb, cb, L, nl, cl, D, nd, cd⟩) (HX.out.keep k1 id)
        go_wp2_with fail
        refine (HT.out _ k1).mono ?_
        rintro e w2 ⟨u, rfl, hO2, k2⟩
        obtain ⟨A3, c3', rfl, _, _, hr3, _⟩ := hO2.form
        replace k2 := keepN k1 k2
        clear hO2 c0 c1 c2 c3 c4
        go_wp2_with fail
        refine (HFT2.out _ _ _ hr3 k2).mono ?_
        rintro e w3 ⟨rfl, k3⟩
        replace k3 := keepN k2 k3
        obtain ⟨c0, c1, c2, c3, c4⟩ := blk5 (v := ⟨S, A, na, ca, B, nb, cb, L, nl, cl, D, nd, cd⟩) (HX.out.keep k3 id)
        clear hr3
        go_wp2_with fail
        refine (HCl.out _ _ _ (HP2.out _ k3)).mono ?_
        rintro e w4 ⟨u4, rfl, hO4, k4⟩
        have HO4 := Lib.hid hO4
        have HK4 := Lib.hid (keepN (keepN k0 k3) k4)
        have hz := (keepN k0 k3).size
        clear hO4 k4 c0 c1 c2 c3 c4
        go_wp2
        go_ret2
        exact ⟨_, rfl, (by first | exact HO4.out | (rw [HRL.out]; exact HO4.out) : Own w4 _ _ (Fresh w3) u4 _ _).mono (fun k hf _ => Nat.le_trans hz hf), HK4.out⟩

end Go.Proofs.YtbnekeomdhljhaaGreatDoor.F

namespace Go.Proofs.YtbnekeomdhljhaaGreatDoor.F
open Go.RowKit W

/-- A list of numbers that is owned, as a slice that reads. -/
theorem own_ivs {w : World} {O : Nat → Prop} {u : Value} {l l' : List Int} {n : Nat} (h : Own w 3 1 O u l.length (ivs l)) (he : l = l') (hn : l'.length = n) : ∃ A c, u = .slice A n c ∧ Rd w A (ivs l') := by
  subst he hn
  obtain ⟨A, c, e, _, _, hr, _⟩ := h.form
  exact ⟨A, c, e, hr⟩
theorem own_vvs {w : World} {O : Nat → Prop} {u : Value} {l l' : List (Int × Int)} {n : Nat} (h : Own w 68 2 O u l.length (vvs l)) (he : l = l') (hn : l'.length = n) : ∃ A c, u = .slice A n c ∧ n ≤ c ∧ Rd w A (vvs l') := by
  subst he hn
  obtain ⟨A, c, e, hc, _, hr, _⟩ := h.form
  exact ⟨A, c, e, hc, hr⟩
theorem slots_lit (f : Fu) (l : List Int) (n : Nat) (v : FV) (w : World) (h : FnV f v w) (he : slF f = l) (hn : l.length = n) : Calls Tryz.prog 31 #[v.val] w fun e w' => ∃ A c, e = .returned (.slice A n c) ∧ Rd w' A (ivs l) ∧ Keep NoB w w' := by
  refine (slotsF_any v f w h.1 h.2).mono ?_
  rintro e w' ⟨u, rfl, hO, hk⟩
  obtain ⟨A, c, rfl, hr⟩ := own_ivs hO he hn
  exact ⟨A, c, rfl, hr, hk⟩
theorem pointers_lit (f : Fu) (l : List Int) (n : Nat) (v : FV) (w : World) (h : FnV f v w) (he : ptZ f = l) (hn : l.length = n) : Calls Tryz.prog 33 #[v.val] w fun e w' => ∃ A c, e = .returned (.slice A n c) ∧ Rd w' A (ivs l) ∧ Keep NoB w w' := by
  refine (pointers_any v f w h.1 h.2).mono ?_
  rintro e w' ⟨u, rfl, hO, hk⟩
  obtain ⟨A, c, rfl, hr⟩ := own_ivs hO he hn
  exact ⟨A, c, rfl, hr, hk⟩
theorem begin_lit (f : Fu) (x l : List (Int × Int)) (E : Int) (n m c : Nat) (X : Option Addr) (v : FV) (w : World) (h : FnV f v w) (hx : Rd w X (vvs x)) (hm : x.length = m) (hm1 : m ≤ 100) (he : begL f x = l ∧ begE f x = E) (hn : l.length = n) :
    Calls Tryz.prog 26 #[v.val, .slice X m c] w fun e w' => ∃ A d, e = .returned (.tuple #[.slice A n d, .int .i64 E]) ∧ n ≤ d ∧ Rd w' A (vvs l) ∧ Keep NoB w w' := by
  obtain ⟨he, rfl⟩ := he
  refine (begin_any v f X x m c w h.1 h.2 hx hm hm1).mono ?_
  rintro e w' ⟨u, rfl, hO, hk⟩
  obtain ⟨A, d, rfl, hc, hr⟩ := own_vvs hO he hn
  exact ⟨A, d, rfl, hc, hr, hk⟩

set_option maxRecDepth 100000 in
set_option maxHeartbeats 8000000 in
theorem alive_any (w : World) : Calls Tryz.prog 38 #[] w fun e w' => e = .returned (.bool true) ∧ Keep NoB w w' := by
  have HS := Lib.hid (fun w => some_any w)
  have HI4 := Lib.hid (fun A1 A2 c1 c2 w h1 h2 => ints_any A1 A2 [1, 4, 2, 3] [1, 4, 2, 3] 4 4 c1 c2 w h1 h2 rfl rfl (by decide) (by decide) true (show _ = _ by simp))
  have HI1 := Lib.hid (fun A1 A2 c1 c2 w h1 h2 => ints_any A1 A2 [1] [1] 1 1 c1 c2 w h1 h2 rfl rfl (by decide) (by decide) true (show _ = _ by simp))
  have HV4 := Lib.hid (fun A1 A2 c1 c2 w h1 h2 => W.same_any A1 A2 [(1, 5), (4, 9), (2, 0), (3, 0)] [(1, 5), (4, 9), (2, 0), (3, 0)] 4 4 c1 c2 w h1 h2 rfl rfl (by decide) (by decide) true (show _ = _ by simp))
  go_enter Tryz.func38, Tryz.ntmps38
  go_wp2_with fail
  refine (HS.out _).mono ?_
  rintro e w1 ⟨v1, rfl, h1, gK⟩
  go_wp2_with fail
  refine (slot_any v1 fSome 2 w1 h1.1 h1.2 2 2 0 (by show _ ∧ _; exact ⟨by kernel_rfl, by kernel_rfl, by kernel_rfl⟩)).mono ?_
  rintro e w2 ⟨rfl, k1⟩
  replace gK := keepN gK k1
  clear k1 h1
  go_wp2_with fail
  refine (HS.out _).mono ?_
  rintro e w3 ⟨v2, rfl, h2, k1⟩
  replace gK := keepN gK k1
  clear k1
  go_wp2_with fail
  refine (slot_any v2 fSome 4 w3 h2.1 h2.2 0 0 72 (by show _ ∧ _; exact ⟨by kernel_rfl, by kernel_rfl, by kernel_rfl⟩)).mono ?_
  rintro e w4 ⟨rfl, k1⟩
  replace gK := keepN gK k1
  clear k1 h2
  go_wp2_with fail
  refine (HS.out _).mono ?_
  rintro e w5 ⟨v3, rfl, h3, k1⟩
  replace gK := keepN gK k1
  clear k1
  have kA := (Keep.refl NoB w5).alloc (.cells #[.int .i64 1, .int .i64 5, .int .i64 4, .int .i64 9] 68)
  go_wp2_with fail
  refine (begin_lit fSome [(1, 5), (4, 9)] [(1, 5), (4, 9), (2, 0), (3, 0)] 0 4 2 _ _ v3 _ (h3.keepN kA) (rd_made rfl rfl) rfl (by decide) ⟨by kernel_rfl, by kernel_rfl⟩ rfl).mono ?_
  rintro e w6 ⟨A6, c6, rfl, _, r6, k1⟩
  replace gK := keepN gK (keepN kA k1)
  clear k1 kA h3
  go_wp2_with fail
  refine (HS.out _).mono ?_
  rintro e w7 ⟨v4, rfl, h4, k1⟩
  replace gK := keepN gK k1
  replace r6 := r6.keepN k1
  clear k1
  have kA := (Keep.refl NoB w7).alloc (.cells #[.int .i64 1, .int .i64 5] 68)
  go_wp2_with fail
  refine (begin_lit fSome [(1, 5)] [] 73 0 1 _ _ v4 _ (h4.keepN kA) (rd_made rfl rfl) rfl (by decide) ⟨by kernel_rfl, by kernel_rfl⟩ rfl).mono ?_
  rintro e w8 ⟨A8, c8, rfl, _, _, k1⟩
  replace gK := keepN gK (keepN kA k1)
  replace r6 := r6.keepN (keepN kA k1)
  clear k1 kA h4
  go_wp2_with fail
  refine (HS.out _).mono ?_
  rintro e w9 ⟨v5, rfl, h5, k1⟩
  replace gK := keepN gK k1
  replace r6 := r6.keepN k1
  clear k1
  go_wp2_with fail
  refine (slots_lit fSome [1, 4, 2, 3] 4 v5 w9 h5 (by kernel_rfl) rfl).mono ?_
  rintro e w10 ⟨A10, c10, rfl, r10, k1⟩
  replace gK := keepN gK k1
  replace r6 := r6.keepN k1
  clear k1 h5
  have kA := (Keep.refl NoB w10).alloc (.cells #[.int .i64 1, .int .i64 4, .int .i64 2, .int .i64 3] 3)
  go_wp2_with fail
  refine (HI4.out _ _ _ _ _ (r10.keepN kA) (rd_made rfl rfl)).mono ?_
  rintro e w11 ⟨rfl, k1⟩
  replace gK := keepN gK (keepN kA k1)
  replace r6 := r6.keepN (keepN kA k1)
  clear k1 kA r10
  go_wp2_with fail
  refine (HS.out _).mono ?_
  rintro e w12 ⟨v6, rfl, h6, k1⟩
  replace gK := keepN gK k1
  replace r6 := r6.keepN k1
  clear k1
  go_wp2_with fail
  refine (pointers_lit fSome [1] 1 v6 w12 h6 (by kernel_rfl) rfl).mono ?_
  rintro e w13 ⟨A13, c13, rfl, r13, k1⟩
  replace gK := keepN gK k1
  replace r6 := r6.keepN k1
  clear k1 h6
  have kA := (Keep.refl NoB w13).alloc (.cells #[.int .i64 1] 3)
  go_wp2_with fail
  refine (HI1.out _ _ _ _ _ (r13.keepN kA) (rd_made rfl rfl)).mono ?_
  rintro e w14 ⟨rfl, k1⟩
  replace gK := keepN gK (keepN kA k1)
  replace r6 := r6.keepN (keepN kA k1)
  clear k1 kA r13
  have kA := (Keep.refl NoB w14).alloc (.cells #[.int .i64 1, .int .i64 5, .int .i64 4, .int .i64 9, .int .i64 2, .int .i64 0, .int .i64 3, .int .i64 0] 68)
  go_wp2_with fail
  refine (HV4.out _ _ _ _ _ (r6.keepN kA) (rd_made rfl rfl)).mono ?_
  rintro e w15 ⟨rfl, k1⟩
  replace gK := keepN gK (keepN kA k1)
  clear k1 kA r6
  go_wp2
  go_ret
  exact ⟨rfl, gK⟩

end Go.Proofs.YtbnekeomdhljhaaGreatDoor.F

namespace Go.Proofs.YtbnekeomdhljhaaGreatDoor.O

theorem in_bounds {k n : Int} (h : inK k n = true) : (-9223372036854775808 ≤ n ∧ n ≤ 9223372036854775807) ∧ (k ≠ 1 → 0 ≤ n ∧ n ≤ 511) ∧ (k = 0 → n = 0) := by
  have h := of_decide_eq_true h
  unfold lo hi at h
  repeat' split at h
  all_goals omega

theorem enc_cancel {m n : Nat} {s t : List UInt8} (hm : m < 18446744073709551616) (hn : n < 18446744073709551616) (h : V.encL m ++ s = V.encL n ++ t) : m = n ∧ s = t := by
  have e := congrArg V.nx h
  rw [V.nx_enc m hm, V.nx_enc n hn] at e
  have e1 : m = n := (Prod.mk.inj e).1
  subst e1
  exact ⟨rfl, List.append_cancel_left h⟩
theorem encP_cancel {k a b : Int} {s t : List UInt8} (ha : inK k a = true) (hb : inK k b = true) (h : encP k a ++ s = encP k b ++ t) : a = b ∧ s = t := by
  have xa := in_bounds ha
  have xb := in_bounds hb
  unfold encP at h
  split at h
  · rename_i h0
    rw [xa.2.2 h0, xb.2.2 h0]; exact ⟨rfl, by simpa using h⟩
  · split at h
    · obtain ⟨h1, h2⟩ := enc_cancel (V.zig_lt a xa.1.1 xa.1.2) (V.zig_lt b xb.1.1 xb.1.2) h
      exact ⟨(V.zig_inj a b).1 h1, h2⟩
    · rename_i h1
      have ya := xa.2.1 h1
      have yb := xb.2.1 h1
      obtain ⟨h1, h2⟩ := enc_cancel (by omega) (by omega) h
      exact ⟨by omega, h2⟩
theorem bytes_cancel {op a b op' a' b' : Int} {s t : List UInt8} (h1 : okI op a b = true) (h2 : okI op' a' b' = true) (h : bytesI op a b ++ s = bytesI op' a' b' ++ t) : (op = op' ∧ a = a' ∧ b = b') ∧ s = t := by
  obtain ⟨o1, a1, b1⟩ := ok_op h1
  obtain ⟨o2, a2, b2⟩ := ok_op h2
  have x1 := isOp_yes o1
  have x2 := isOp_yes o2
  unfold bytesI at h
  simp only [List.append_assoc] at h
  obtain ⟨e1, h⟩ := enc_cancel (by omega) (by omega) h
  have e1 : op = op' := by omega
  subst e1
  obtain ⟨e2, h'⟩ := encP_cancel a1 a2 h
  obtain ⟨e3, h''⟩ := encP_cancel b1 b2 h'
  exact ⟨⟨rfl, e2, e3⟩, h''⟩
theorem bytes_ne {op a b : Int} (h : okI op a b = true) : bytesI op a b ≠ [] := by
  have x := isOp_yes (ok_op h).1
  intro e
  have hl := congrArg List.length e
  unfold bytesI at hl
  rw [List.length_append, V.encL_length _ (by omega)] at hl
  have := V.wd_pos op.toNat
  simp at hl
  omega

/-- A text up to its first blank. -/
def upto (l : List UInt8) : List UInt8 := l.takeWhile (fun c => decide (c ≠ 32))
theorem upto_of {s r : List UInt8} (hs : ∀ c ∈ s, c ≠ 32) (hr : r = [] ∨ ∃ r', r = 32 :: r') : upto (s ++ r) = s := by
  unfold upto
  rw [List.takeWhile_append_of_pos (by intro c hc; simpa using hs c hc)]
  rcases hr with rfl | ⟨r', rfl⟩
  · simp
  · simp
theorem split_at {s t r q : List UInt8} (hs : ∀ c ∈ s, c ≠ 32) (ht : ∀ c ∈ t, c ≠ 32) (hr : r = [] ∨ ∃ r', r = 32 :: r') (hq : q = [] ∨ ∃ q', q = 32 :: q') (h : s ++ r = t ++ q) : s = t ∧ r = q := by
  have e := congrArg upto h
  rw [upto_of hs hr, upto_of ht hq] at e
  subst e
  exact ⟨rfl, List.append_cancel_left h⟩

theorem itoa_no (n : Int) : ∀ c ∈ Lib.itoa n, c ≠ 32 := by
  have hd : ∀ u, ∀ c ∈ Lib.decDigits u, c ≠ 32 := fun u c hc e => by
    have := W.dec_digits u c hc
    rw [e] at this
    exact absurd this (by decide)
  intro c hc
  rcases Int.lt_or_le n 0 with h | h
  · rw [W.itoa_minus h] at hc
    rcases List.mem_cons.1 hc with rfl | hc
    · decide
    · exact hd _ c hc
  · rw [W.itoa_pos h] at hc
    exact hd _ c hc
theorem nameAt_all {l : List (List UInt8)} {p : List UInt8 → Bool} (h : l.all p = true) (h0 : p [] = true) (n : Int) : p (A.nameAt l n) = true := by
  unfold A.nameAt
  split
  · rcases Nat.lt_or_ge n.toNat l.length with hlt | hge
    · rw [A.getD_at hlt]
      exact List.all_eq_true.1 h _ (List.getElem_mem hlt)
    · rw [A.getD_past hge]; exact h0
  · exact h0
def noSp (s : List UInt8) : Bool := s.all fun c => decide (c ≠ 32)
theorem noSp_mem {s : List UInt8} (h : noSp s = true) : ∀ c ∈ s, c ≠ 32 := fun c hc => by simpa using List.all_eq_true.1 h c hc
theorem word_no (k n : Int) : ∀ c ∈ word k n, c ≠ 32 := by
  unfold word
  split
  · apply noSp_mem
    unfold W.letC
    repeat' split
    all_goals decide
  · split
    · exact noSp_mem (nameAt_all (p := noSp) (by decide) (by decide) n)
    · split
      · exact noSp_mem (nameAt_all (p := noSp) (by decide) (by decide) n)
      · exact itoa_no n
theorem name_no (op : Int) : ∀ c ∈ (rowAt op).name, c ≠ 32 := noSp_mem (rowAt_all (p := fun r => noSp r.name) (by decide) (by decide) op)
theorem part_sp (k n : Int) : partL k n = [] ∨ ∃ r, partL k n = 32 :: r := by
  unfold partL
  split
  · exact .inl rfl
  · exact .inr ⟨_, rfl⟩
theorem names_inj (l : List (List UInt8)) (hnd : (List.range l.length).all (fun i => (List.range l.length).all fun j => decide (l.getD i [] = l.getD j [] → i = j)) = true) {a b : Int} (ha : 0 ≤ a ∧ a < l.length) (hb : 0 ≤ b ∧ b < l.length) (h : A.nameAt l a = A.nameAt l b) : a = b := by
  unfold A.nameAt at h
  rw [if_pos ha.1, if_pos hb.1] at h
  have h1 := List.all_eq_true.1 hnd a.toNat (List.mem_range.2 (by omega))
  have h2 := List.all_eq_true.1 h1 b.toNat (List.mem_range.2 (by omega))
  have := of_decide_eq_true h2 h
  omega
theorem word_inj {k a b : Int} (hk : k ≠ 0) (ha : inK k a = true) (hb : inK k b = true) (h : word k a = word k b) : a = b := by
  have xa := in_bounds ha
  have xb := in_bounds hb
  have ya := of_decide_eq_true ha
  have yb := of_decide_eq_true hb
  unfold word at h
  split at h
  · rename_i hk2
    have z1 : 1 ≤ a ∧ a ≤ 4 ∧ 1 ≤ b ∧ b ≤ 4 := by unfold lo hi at ya yb; rcases hk2 with rfl | rfl <;> simp at ya yb <;> omega
    obtain ⟨p1, p2, p3, p4⟩ := z1
    have va : a = 1 ∨ a = 2 ∨ a = 3 ∨ a = 4 := by omega
    have vb : b = 1 ∨ b = 2 ∨ b = 3 ∨ b = 4 := by omega
    rcases va with rfl | rfl | rfl | rfl <;> rcases vb with rfl | rfl | rfl | rfl <;> first | rfl | (exact absurd h (by decide))
  · split at h
    · rename_i h1 h2
      subst h2
      exact names_inj A.binNs (by decide +kernel) (by unfold lo hi at ya; simp at ya; exact ⟨ya.1, by have : A.binNs.length = 14 := rfl; omega⟩) (by unfold lo hi at yb; simp at yb; exact ⟨yb.1, by have : A.binNs.length = 14 := rfl; omega⟩) h
    · split at h
      · rename_i h1 h2 h3
        subst h3
        exact names_inj A.unNs (by decide +kernel) (by unfold lo hi at ya; simp at ya; exact ⟨ya.1, by have : A.unNs.length = 9 := rfl; omega⟩) (by unfold lo hi at yb; simp at yb; exact ⟨yb.1, by have : A.unNs.length = 9 := rfl; omega⟩) h
      · exact W.itoa_inj xa.1 xb.1 h
theorem rowsN_nodup : (List.range 30).all (fun i => (List.range 30).all fun j => decide ((rowsL.getD i row0).name = (rowsL.getD j row0).name → i = j)) = true := by decide +kernel
theorem name_inj {op op' : Int} (h1 : isOp op = true) (h2 : isOp op' = true) (h : (rowAt op).name = (rowAt op').name) : op = op' := by
  have x1 := isOp_yes h1
  have x2 := isOp_yes h2
  unfold rowAt at h
  rw [if_pos h1, if_pos h2] at h
  have e1 := List.all_eq_true.1 rowsN_nodup op.toNat (List.mem_range.2 (by omega))
  have e2 := List.all_eq_true.1 e1 op'.toNat (List.mem_range.2 (by omega))
  have := of_decide_eq_true e2 h
  omega
theorem part_cancel {k a b : Int} {s t : List UInt8} (ha : inK k a = true) (hb : inK k b = true) (hs : s = [] ∨ ∃ r, s = 32 :: r) (ht : t = [] ∨ ∃ r, t = 32 :: r) (h : partL k a ++ s = partL k b ++ t) : a = b ∧ s = t := by
  unfold partL at h
  split at h
  · rename_i h0
    rw [(in_bounds ha).2.2 h0, (in_bounds hb).2.2 h0]; exact ⟨rfl, by simpa using h⟩
  · rename_i h0
    simp only [List.cons_append, List.cons.injEq, true_and] at h
    obtain ⟨h1, h2⟩ := split_at (word_no k a) (word_no k b) hs ht h
    exact ⟨word_inj h0 ha hb h1, h2⟩
theorem text_inj {op a b op' a' b' : Int} (h1 : okI op a b = true) (h2 : okI op' a' b' = true) (h : textI op a b = textI op' a' b') : op = op' ∧ a = a' ∧ b = b' := by
  obtain ⟨o1, a1, b1⟩ := ok_op h1
  obtain ⟨o2, a2, b2⟩ := ok_op h2
  have hsp : ∀ k a k' b, (partL k a ++ partL k' b = [] ∨ ∃ r, partL k a ++ partL k' b = 32 :: r) := fun k a k' b => by
    rcases part_sp k a with e | ⟨r, e⟩
    · rw [e]; exact part_sp k' b
    · rw [e]; exact .inr ⟨_, rfl⟩
  unfold textI at h
  obtain ⟨e1, h⟩ := split_at (name_no op) (name_no op') (hsp _ _ _ _) (hsp _ _ _ _) h
  have e1 := name_inj o1 o2 e1
  subst e1
  obtain ⟨e2, h2⟩ := part_cancel a1 a2 (part_sp _ _) (part_sp _ _) h
  have h' : partL (rowAt op).kb b ++ [] = partL (rowAt op).kb b' ++ [] := by simpa using h2
  obtain ⟨e3, _⟩ := part_cancel b1 b2 (.inl rfl) (.inl rfl) h'
  exact ⟨rfl, e2, e3⟩

end Go.Proofs.YtbnekeomdhljhaaGreatDoor.O

namespace Go.Proofs.YtbnekeomdhljhaaGreatDoor.O

/-- What comes next, if nothing is wrong with it, is its number's bytes. -/
theorem nx_ok {l : List UInt8} (h : (V.nx l).2.2 = 0) : l = V.encL (V.nx l).1 ++ l.drop (V.nx l).2.1 ∧ (V.encL (V.nx l).1).length = (V.nx l).2.1 := by
  rcases l with _ | ⟨b, r⟩
  · cases h
  · rw [V.nx_cons] at h ⊢
    split at h
    · cases h
    · rename_i h1
      split at h
      · cases h
      · rename_i h2
        rw [if_neg h1, if_neg h2]
        have ht := V.td_rng b.toNat (by simpa using b.toNat_lt)
        obtain ⟨t, hT⟩ : ∃ t, V.td b.toNat = t + 1 := ⟨V.td b.toNat - 1, by omega⟩
        simp only
        have hw := V.dc_width b (r.take t) (V.td b.toNat) rfl (by rw [hT]; simp; omega)
        rw [hT] at h1 h2 hw ⊢
        rw [List.take_succ_cons] at h2 ⊢
        have e := hw.2.1 (by omega)
        rw [e]
        refine ⟨?_, by simp; omega⟩
        rw [List.drop_succ_cons, List.cons_append, List.take_append_drop]

theorem num_ok {l : List UInt8} {p m : Nat} (h : (V.NumR l p m).2.1 = 0) :
    l.drop p = V.encL (V.NumR l p m).1 ++ l.drop (V.NumR l p m).2.2 ∧ (V.NumR l p m).1 ≤ m ∧ (V.NumR l p m).1 < 18446744073709551616 ∧ (V.NumR l p m).2.2 = p + (V.encL (V.NumR l p m).1).length := by
  unfold V.NumR at h ⊢
  unfold V.bnd at h ⊢
  have hw := (V.nx_width (l.drop p)).2.2.2
  simp only at h ⊢
  split at h
  · rename_i h1; exact absurd h h1
  · rename_i h1
    split at h
    · cases h
    · rename_i h2
      rw [if_neg h1, if_neg h2]
      have e := nx_ok (l := l.drop p) h
      rw [List.drop_drop] at e
      exact ⟨e.1, by omega, hw, by rw [e.2]⟩
theorem num_enc {l s : List UInt8} {p m n : Nat} (h : l.drop p = V.encL n ++ s) (h1 : n ≤ m) (h2 : n < 18446744073709551616) : V.NumR l p m = (n, 0, p + (V.encL n).length) := by
  have hb : V.bnd (V.nx (l.drop p)) m = (n, V.wd n, 0) := by
    rw [h, V.nx_enc n h2]
    unfold V.bnd
    rw [if_neg (by simp), if_neg (by simp; omega)]
  unfold V.NumR
  rw [hb, V.encL_length n h2]
theorem sig_ok {l : List UInt8} {p : Nat} (h : (V.SigR l p (lo 1) (hi 1)).2.1 = 0) :
    l.drop p = V.encL (V.zig (V.SigR l p (lo 1) (hi 1)).1) ++ l.drop (V.SigR l p (lo 1) (hi 1)).2.2 ∧ inK 1 (V.SigR l p (lo 1) (hi 1)).1 = true ∧ (V.SigR l p (lo 1) (hi 1)).2.2 = p + (V.encL (V.zig (V.SigR l p (lo 1) (hi 1)).1)).length := by
  unfold V.SigR at h ⊢
  split at h
  · rename_i h1; exact absurd h h1
  · rename_i h1
    split at h
    · cases h
    · rename_i h2
      rw [if_neg h1, if_neg h2]
      have e := nx_ok (l := l.drop p) (by omega)
      rw [List.drop_drop] at e
      simp only [V.zig_zag]
      exact ⟨e.1, decide_eq_true (by omega), by rw [e.2]⟩
theorem sig_enc {l s : List UInt8} {p : Nat} {n : Int} (h : l.drop p = V.encL (V.zig n) ++ s) (h1 : inK 1 n = true) : V.SigR l p (lo 1) (hi 1) = (n, 0, p + (V.encL (V.zig n)).length) := by
  have hb := in_bounds h1
  have h1 := of_decide_eq_true h1
  have hz := V.zig_lt n hb.1.1 hb.1.2
  unfold V.SigR
  rw [h, V.nx_enc _ hz, V.encL_length _ hz]
  simp only [V.zag_zig]
  rw [if_neg (by simp), if_neg (by omega)]

/-- An operand that is read: its number, the error, the place behind it. -/
def decP (k : Int) (l : List UInt8) (p : Nat) : Int × Nat × Nat :=
  if k = 0 then (0, 0, p)
  else if k = 1 then V.SigR l p (lo 1) (hi 1)
  else if (V.NumR l p (hi k).toNat).2.1 ≠ 0 then (0, (V.NumR l p (hi k).toNat).2.1, (V.NumR l p (hi k).toNat).2.2)
  else if inK k (V.NumR l p (hi k).toNat).1 = true then ((V.NumR l p (hi k).toNat).1, 0, (V.NumR l p (hi k).toNat).2.2) else (0, 40, (V.NumR l p (hi k).toNat).2.2)

theorem decP_ok {k : Int} {l : List UInt8} {p : Nat} (h : (decP k l p).2.1 = 0) :
    l.drop p = encP k (decP k l p).1 ++ l.drop (decP k l p).2.2 ∧ inK k (decP k l p).1 = true ∧ (decP k l p).2.2 = p + (encP k (decP k l p).1).length := by
  unfold decP at h ⊢
  unfold encP
  by_cases h0 : k = 0
  · simp only [if_pos h0]
    subst h0
    exact ⟨rfl, by decide, rfl⟩
  · simp only [if_neg h0] at h ⊢
    by_cases h1 : k = 1
    · subst h1
      simp only [if_true] at h ⊢
      exact sig_ok h
    · simp only [if_neg h1] at h ⊢
      by_cases h2 : (V.NumR l p (hi k).toNat).2.1 ≠ 0
      · rw [if_pos h2] at h; exact absurd h h2
      · rw [if_neg h2] at h ⊢
        by_cases h3 : inK k (V.NumR l p (hi k).toNat).1 = true
        · rw [if_pos h3]
          have e := num_ok (l := l) (p := p) (m := (hi k).toNat) (by omega)
          exact ⟨e.1, h3, e.2.2.2⟩
        · rw [if_neg h3] at h; cases h
theorem decP_enc {k n : Int} {l s : List UInt8} {p : Nat} (hn : inK k n = true) (h : l.drop p = encP k n ++ s) : decP k l p = (n, 0, p + (encP k n).length) := by
  have hb := in_bounds hn
  unfold encP at h ⊢
  unfold decP
  by_cases h0 : k = 0
  · rw [if_pos h0, if_pos h0, hb.2.2 h0]; rfl
  · rw [if_neg h0] at h ⊢
    rw [if_neg h0]
    by_cases h1 : k = 1
    · subst h1
      simp only [if_true] at h ⊢
      exact sig_enc h hn
    · rw [if_neg h1] at h ⊢
      rw [if_neg h1]
      have hr := hb.2.1 h1
      have hd := of_decide_eq_true hn
      have e := num_enc (m := (hi k).toNat) h (by omega) (by omega)
      rw [e]
      simp only
      have en : ((n.toNat : Nat) : Int) = n := by omega
      rw [en, hn]
      simp

/-- An instruction that is read: it, the error, the place behind it. -/
structure Dec where
  op : Int
  a : Int
  b : Int
  er : Nat
  pl : Nat
def decI (l : List UInt8) (p : Nat) : Dec :=
  if (V.NumR l p 29).2.1 ≠ 0 then ⟨0, 0, 0, (V.NumR l p 29).2.1, (V.NumR l p 29).2.2⟩
  else if (decP (rowAt (V.NumR l p 29).1).ka l (V.NumR l p 29).2.2).2.1 ≠ 0 then ⟨0, 0, 0, (decP (rowAt (V.NumR l p 29).1).ka l (V.NumR l p 29).2.2).2.1, (decP (rowAt (V.NumR l p 29).1).ka l (V.NumR l p 29).2.2).2.2⟩
  else if (decP (rowAt (V.NumR l p 29).1).kb l (decP (rowAt (V.NumR l p 29).1).ka l (V.NumR l p 29).2.2).2.2).2.1 ≠ 0 then
    ⟨0, 0, 0, (decP (rowAt (V.NumR l p 29).1).kb l (decP (rowAt (V.NumR l p 29).1).ka l (V.NumR l p 29).2.2).2.2).2.1, (decP (rowAt (V.NumR l p 29).1).kb l (decP (rowAt (V.NumR l p 29).1).ka l (V.NumR l p 29).2.2).2.2).2.2⟩
  else ⟨(V.NumR l p 29).1, (decP (rowAt (V.NumR l p 29).1).ka l (V.NumR l p 29).2.2).1, (decP (rowAt (V.NumR l p 29).1).kb l (decP (rowAt (V.NumR l p 29).1).ka l (V.NumR l p 29).2.2).2.2).1, 0,
    (decP (rowAt (V.NumR l p 29).1).kb l (decP (rowAt (V.NumR l p 29).1).ka l (V.NumR l p 29).2.2).2.2).2.2⟩

/-- The same, by steps. -/
theorem decI_1 {l : List UInt8} {p n r q : Nat} (h : V.NumR l p 29 = (n, r, q)) (hr : r ≠ 0) : decI l p = ⟨0, 0, 0, r, q⟩ := by unfold decI; rw [h, if_pos hr]
theorem decI_2 {l : List UInt8} {p n q r1 q1 : Nat} {a : Int} (h : V.NumR l p 29 = (n, 0, q)) (h1 : decP (rowAt n).ka l q = (a, r1, q1)) (hr : r1 ≠ 0) : decI l p = ⟨0, 0, 0, r1, q1⟩ := by
  unfold decI; rw [h]; simp only; rw [h1, if_neg (by simp), if_pos hr]
theorem decI_3 {l : List UInt8} {p n q q1 r2 q2 : Nat} {a b : Int} (h : V.NumR l p 29 = (n, 0, q)) (h1 : decP (rowAt n).ka l q = (a, 0, q1)) (h2 : decP (rowAt n).kb l q1 = (b, r2, q2)) (hr : r2 ≠ 0) : decI l p = ⟨0, 0, 0, r2, q2⟩ := by
  unfold decI; rw [h]; simp only; rw [h1]; simp only; rw [h2, if_neg (by simp), if_neg (by simp), if_pos hr]
theorem decI_4 {l : List UInt8} {p n q q1 q2 : Nat} {a b : Int} (h : V.NumR l p 29 = (n, 0, q)) (h1 : decP (rowAt n).ka l q = (a, 0, q1)) (h2 : decP (rowAt n).kb l q1 = (b, 0, q2)) : decI l p = ⟨n, a, b, 0, q2⟩ := by
  unfold decI; rw [h]; simp only; rw [h1]; simp only; rw [h2]; simp

theorem trip (x : Int × Nat × Nat) : x = (x.1, x.2.1, x.2.2) := rfl
theorem tripN (x : Nat × Nat × Nat) : x = (x.1, x.2.1, x.2.2) := rfl

/-- What is read without an error may be, and was its bytes. -/
theorem decI_ok {l : List UInt8} {p : Nat} (h : (decI l p).er = 0) :
    okI (decI l p).op (decI l p).a (decI l p).b = true ∧ l.drop p = bytesI (decI l p).op (decI l p).a (decI l p).b ++ l.drop (decI l p).pl ∧ (decI l p).pl = p + (bytesI (decI l p).op (decI l p).a (decI l p).b).length := by
  obtain ⟨n, r, q, hN⟩ : ∃ n r q, V.NumR l p 29 = (n, r, q) := ⟨_, _, _, rfl⟩
  by_cases hr : r = 0
  · subst hr
    obtain ⟨a, r1, q1, hA⟩ : ∃ a r1 q1, decP (rowAt n).ka l q = (a, r1, q1) := ⟨_, _, _, rfl⟩
    by_cases hr1 : r1 = 0
    · subst hr1
      obtain ⟨b, r2, q2, hB⟩ : ∃ b r2 q2, decP (rowAt n).kb l q1 = (b, r2, q2) := ⟨_, _, _, rfl⟩
      by_cases hr2 : r2 = 0
      · subst hr2
        have eN := num_ok (l := l) (p := p) (m := 29) (by rw [hN])
        have eA := decP_ok (k := (rowAt n).ka) (l := l) (p := q) (by rw [hA])
        have eB := decP_ok (k := (rowAt n).kb) (l := l) (p := q1) (by rw [hB])
        rw [hN] at eN
        rw [hA] at eA
        rw [hB] at eB
        simp only at eN eA eB
        rw [decI_4 hN hA hB]
        simp only
        have ho : isOp (n : Int) = true := decide_eq_true (by omega)
        refine ⟨?_, ?_, ?_⟩
        · unfold okI; rw [ho, eA.2.1, eB.2.1]; rfl
        · unfold bytesI
          rw [eN.1, eA.1, eB.1]
          simp
        · unfold bytesI
          rw [eB.2.2, eA.2.2, eN.2.2.2]
          simp
          omega
      · rw [decI_3 hN hA hB hr2] at h; exact absurd h hr2
    · rw [decI_2 hN hA hr1] at h; exact absurd h hr1
  · rw [decI_1 hN hr] at h; exact absurd h hr
/-- What cannot be read is nothing. -/
theorem decI_no {l : List UInt8} {p : Nat} (h : (decI l p).er ≠ 0) : (decI l p).op = 0 ∧ (decI l p).a = 0 ∧ (decI l p).b = 0 := by
  obtain ⟨n, r, q, hN⟩ : ∃ n r q, V.NumR l p 29 = (n, r, q) := ⟨_, _, _, rfl⟩
  by_cases hr : r = 0
  · subst hr
    obtain ⟨a, r1, q1, hA⟩ : ∃ a r1 q1, decP (rowAt n).ka l q = (a, r1, q1) := ⟨_, _, _, rfl⟩
    by_cases hr1 : r1 = 0
    · subst hr1
      obtain ⟨b, r2, q2, hB⟩ : ∃ b r2 q2, decP (rowAt n).kb l q1 = (b, r2, q2) := ⟨_, _, _, rfl⟩
      by_cases hr2 : r2 = 0
      · subst hr2
        rw [decI_4 hN hA hB] at h; exact absurd rfl h
      · rw [decI_3 hN hA hB hr2]; exact ⟨rfl, rfl, rfl⟩
    · rw [decI_2 hN hA hr1]; exact ⟨rfl, rfl, rfl⟩
  · rw [decI_1 hN hr]; exact ⟨rfl, rfl, rfl⟩
/-- An instruction's bytes are read as it was. -/
theorem decI_enc {op a b : Int} {l s : List UInt8} {p : Nat} (hok : okI op a b = true) (h : l.drop p = bytesI op a b ++ s) : decI l p = ⟨op, a, b, 0, p + (bytesI op a b).length⟩ := by
  obtain ⟨ho, hA, hB⟩ := ok_op hok
  have hb := isOp_yes ho
  have en : ((op.toNat : Nat) : Int) = op := by omega
  unfold bytesI at h
  rw [List.append_assoc, List.append_assoc] at h
  have e1 := num_enc (m := 29) h (by omega) (by omega)
  have d1 : l.drop (p + (V.encL op.toNat).length) = encP (rowAt op).ka a ++ (encP (rowAt op).kb b ++ s) := by
    rw [← List.drop_drop, h, List.drop_left]
  have e2 := decP_enc hA d1
  have d2 : l.drop (p + (V.encL op.toNat).length + (encP (rowAt op).ka a).length) = encP (rowAt op).kb b ++ s := by
    rw [← List.drop_drop, d1, List.drop_left]
  have e3 := decP_enc hB d2
  rw [← en] at e2 e3
  rw [decI_4 e1 e2 e3, en]
  unfold bytesI
  simp
  omega

end Go.Proofs.YtbnekeomdhljhaaGreatDoor.O

namespace Go.Proofs.YtbnekeomdhljhaaGreatDoor.C
open Go.RowKit O

/-- What is read in one. -/
def d3 (l : List UInt8) (q : Nat) : I3 := ((decI l q).op, (decI l q).a, (decI l q).b)
/-- So many instructions, read one behind the other, and the place behind them. -/
def fwd (l : List UInt8) (p : Nat) : Nat → Option (List I3 × Nat)
  | 0 => some ([], p)
  | k + 1 => match fwd l p k with
    | none => none
    | some x => if (decI l x.2).er = 0 then some (x.1 ++ [d3 l x.2], (decI l x.2).pl) else none
theorem fwd_step {l : List UInt8} {p k q : Nat} {xs : List I3} (h : fwd l p k = some (xs, q)) (he : (decI l q).er = 0) : fwd l p (k + 1) = some (xs ++ [d3 l q], (decI l q).pl) := by
  rw [fwd, h]; exact if_pos he
theorem fwd_stop {l : List UInt8} {p k q : Nat} {xs : List I3} (h : fwd l p k = some (xs, q)) (he : (decI l q).er ≠ 0) : fwd l p (k + 1) = none := by
  rw [fwd, h]; exact if_neg he
theorem fwd_none {l : List UInt8} {p k : Nat} (h : fwd l p k = none) : ∀ m, k ≤ m → fwd l p m = none := by
  intro m
  induction m with
  | zero => intro hk; obtain rfl : k = 0 := by omega
            exact h
  | succ m ih =>
    intro hk
    by_cases e : k = m + 1
    · rw [← e]; exact h
    · rw [fwd, ih (by omega)]
theorem fwd_ok {l : List UInt8} {p : Nat} : ∀ (k : Nat) {xs : List I3} {q : Nat}, fwd l p k = some (xs, q) → l.drop p = byt xs ++ l.drop q ∧ q = p + (byt xs).length ∧ xs.length = k ∧ xs.all ok1 = true := by
  intro k
  induction k with
  | zero =>
    intro xs q h
    rw [fwd] at h
    injection h with h
    injection h with h1 h2
    subst h1 h2
    exact ⟨rfl, rfl, rfl, rfl⟩
  | succ k ih =>
    intro xs q h
    cases hf : fwd l p k with
    | none => rw [fwd, hf] at h; cases h
    | some y =>
      obtain ⟨ys, r⟩ := y
      by_cases he : (decI l r).er = 0
      · rw [fwd_step hf he] at h
        injection h with h
        injection h with h1 h2
        subst h1 h2
        obtain ⟨e1, e2, e3, e4⟩ := ih hf
        obtain ⟨o1, o2, o3⟩ := decI_ok he
        refine ⟨?_, ?_, by simp [e3], ?_⟩
        · rw [byt_snoc, e1, o2]; simp [d3]
        · rw [byt_snoc, o3, e2]; simp [d3]; omega
        · rw [List.all_append, e4]; simp [ok1, d3, o1]
      · rw [fwd_stop hf he] at h; cases h
theorem byt_append (l r : List I3) : byt (l ++ r) = byt l ++ byt r := by unfold byt; rw [List.flatMap_append]
theorem fwd_enc {l s : List UInt8} {p : Nat} (xs ys : List I3) (ho : (xs ++ ys).all ok1 = true) (h : l.drop p = byt (xs ++ ys) ++ s) : fwd l p xs.length = some (xs, p + (byt xs).length) := by
  induction hn : xs.length generalizing xs ys with
  | zero => obtain rfl := List.length_eq_zero_iff.1 hn; rfl
  | succ n ih =>
    have hne : xs ≠ [] := by intro e; rw [e] at hn; cases hn
    obtain ⟨zs, z, rfl⟩ : ∃ zs z, xs = zs ++ [z] := ⟨xs.dropLast, xs.getLast hne, (List.dropLast_concat_getLast hne).symm⟩
    have hz : zs.length = n := by simpa using hn
    rw [List.append_assoc] at ho h
    have h1 := ih zs ([z] ++ ys) ho h hz
    have hd : l.drop (p + (byt zs).length) = bytesI z.1 z.2.1 z.2.2 ++ (byt ys ++ s) := by
      rw [← List.drop_drop, h, byt_append, byt_append, List.append_assoc, List.drop_left']
      · simp [byt]
      · rfl
    have hok : okI z.1 z.2.1 z.2.2 = true := by
      have := List.all_eq_true.1 ho z (by simp)
      exact this
    have hdec := decI_enc hok hd
    rw [fwd_step h1 (by rw [hdec])]
    unfold d3
    rw [hdec, byt_snoc]
    simp; omega

/-- The body that stands at a place, and the place behind it. -/
def bodyOf (y : Option (List I3 × Nat)) : Option (List I3 × Nat) := match y with
  | none => none
  | some x => if okB x.1 = true then some x else none
def decB (l : List UInt8) (p : Nat) : Option (List I3 × Nat) := if (V.NumR l p 512).2.1 ≠ 0 then none else bodyOf (fwd l (V.NumR l p 512).2.2 (V.NumR l p 512).1)
theorem decB_ok {l : List UInt8} {p q : Nat} {xs : List I3} (h : decB l p = some (xs, q)) : okB xs = true ∧ l.drop p = bytesB xs ++ l.drop q ∧ q = p + (bytesB xs).length := by
  unfold decB at h
  by_cases hr : (V.NumR l p 512).2.1 = 0
  · rw [if_neg (by simpa using hr)] at h
    cases hf : fwd l (V.NumR l p 512).2.2 (V.NumR l p 512).1 with
    | none => rw [hf] at h; cases h
    | some y =>
      rw [hf] at h
      unfold bodyOf at h
      simp only at h
      by_cases ho : okB y.1 = true
      · rw [if_pos ho] at h
        injection h with h
        subst h
        obtain ⟨e1, e2, e3, _⟩ := fwd_ok _ hf
        obtain ⟨n1, n2, n3, n4⟩ := num_ok hr
        refine ⟨ho, ?_, ?_⟩
        · unfold bytesB; rw [n1, e1, e3]; simp
        · unfold bytesB; rw [e2, n4, e3]; simp; omega
      · rw [if_neg ho] at h; cases h
  · rw [if_pos hr] at h; cases h
theorem all_ok1 {l : List I3} (h : okB l = true) : l.all ok1 = true := by
  rw [List.all_eq_true]
  intro x hx
  exact (item_parts (List.all_eq_true.1 (okB_parts h).2.2.2 x hx)).1
theorem decB_enc {l s : List UInt8} {p : Nat} {xs : List I3} (ho : okB xs = true) (h : l.drop p = bytesB xs ++ s) : decB l p = some (xs, p + (bytesB xs).length) := by
  obtain ⟨h1, h2, _, _⟩ := okB_parts ho
  unfold bytesB at h
  rw [List.append_assoc] at h
  have hN := num_enc (m := 512) h h2 (by omega)
  unfold decB
  rw [hN]
  simp only
  have hd : l.drop (p + (V.encL xs.length).length) = byt (xs ++ []) ++ s := by
    rw [← List.drop_drop, h, List.drop_left' rfl, List.append_nil]
  have hf := fwd_enc xs [] (by rw [List.append_nil]; exact all_ok1 ho) hd
  rw [if_neg (by simp), hf]
  unfold bodyOf
  simp only
  rw [if_pos ho]
  unfold bytesB
  simp; omega

end Go.Proofs.YtbnekeomdhljhaaGreatDoor.C

namespace Go.Proofs.YtbnekeomdhljhaaGreatDoor.F
open Go.RowKit W

/-- The name at a place, and the place behind it. -/
def nmR (l : List UInt8) (p : Nat) : Option (List UInt8 × Nat) :=
  if (V.bnd (V.nx (l.drop p)) 32).2.2 ≠ 0 then none else
  if l.length < p + (V.bnd (V.nx (l.drop p)) 32).2.1 + (V.bnd (V.nx (l.drop p)) 32).1 then none else
  some ((l.drop (p + (V.bnd (V.nx (l.drop p)) 32).2.1)).take (V.bnd (V.nx (l.drop p)) 32).1, p + (V.bnd (V.nx (l.drop p)) 32).2.1 + (V.bnd (V.nx (l.drop p)) 32).1)
/-- Locals at a place. -/
def lcR (l : List UInt8) (p : Nat) : Option (List Int × Nat) := match S.decG l p with
  | none => none
  | some x => if x.1.2 = [] then some (x.1.1, x.2) else none
/-- A function whose parts were read. -/
def ifF (f : Fu) (q : Nat) : Option (Fu × Nat) := if okF f = true then some (f, q) else none
def decF (l : List UInt8) (p : Nat) : Option (Fu × Nat) := match nmR l p with
  | none => none
  | some a => match S.decG l a.2 with
    | none => none
    | some g => match lcR l g.2 with
      | none => none
      | some c => match C.decB l c.2 with
        | none => none
        | some d => ifF ⟨a.1, g.1.1, g.1.2, c.1, d.1⟩ d.2
theorem nmR_ok {l : List UInt8} {p q : Nat} {s : List UInt8} (h : nmR l p = some (s, q)) : l.drop p = (V.encL s.length ++ s) ++ l.drop q ∧ q = p + (V.encL s.length ++ s).length ∧ s.length ≤ 32 ∧ q ≤ l.length := by
  unfold nmR at h
  have hN : V.NumR l p 32 = ((V.bnd (V.nx (l.drop p)) 32).1, (V.bnd (V.nx (l.drop p)) 32).2.2, p + (V.bnd (V.nx (l.drop p)) 32).2.1) := rfl
  have hok := S.num_ok (l := l) (p := p) (m := 32)
  rw [hN] at hok
  generalize V.bnd (V.nx (l.drop p)) 32 = b at h hok
  obtain ⟨n, d, r⟩ := b
  simp only at h hok
  split at h
  · cases h
  · rename_i h1
    split at h
    · cases h
    · rename_i h2
      obtain ⟨e1, e2, _, e4⟩ := hok (by simpa using h1)
      injection h with h
      injection h with h3 h4
      have hl : s.length = n := by rw [← h3, List.length_take, List.length_drop]; omega
      subst h4
      rw [hl]
      refine ⟨?_, by rw [List.length_append, hl]; omega, by omega, by omega⟩
      rw [e1, ← h3, List.append_assoc]
      congr 1
      have ht := List.take_append_drop n (l.drop (p + d))
      rw [List.drop_drop] at ht
      exact ht.symm
theorem nmR_enc {l t : List UInt8} {p : Nat} {s : List UInt8} (h32 : s.length ≤ 32) (h : l.drop p = (V.encL s.length ++ s) ++ t) : nmR l p = some (s, p + (V.encL s.length ++ s).length) := by
  have hN : V.NumR l p 32 = ((V.bnd (V.nx (l.drop p)) 32).1, (V.bnd (V.nx (l.drop p)) 32).2.2, p + (V.bnd (V.nx (l.drop p)) 32).2.1) := rfl
  have he := S.num_enc (m := 32) (n := s.length) (by rw [h, List.append_assoc]) h32 (by omega)
  rw [hN] at he
  unfold nmR
  generalize V.bnd (V.nx (l.drop p)) 32 = b at he ⊢
  obtain ⟨n, d, r⟩ := b
  simp only [Prod.mk.injEq] at he ⊢
  obtain ⟨rfl, rfl, h3⟩ := he
  obtain rfl : d = (V.encL s.length).length := by omega
  have hlen := congrArg List.length h
  simp only [List.length_drop, List.length_append] at hlen
  have hw := V.encL_length s.length (by omega)
  have hw1 := V.wd_pos s.length
  rw [if_neg (by simp), if_neg (by omega)]
  have hd : l.drop (p + (V.encL s.length).length) = s ++ t := by rw [← List.drop_drop, h, List.append_assoc, List.drop_left' rfl]
  rw [hd, List.take_left' rfl, List.length_append, Nat.add_assoc]
theorem lcR_ok {l : List UInt8} {p q : Nat} {a : List Int} (h : lcR l p = some (a, q)) : S.decG l p = some ((a, []), q) := by
  unfold lcR at h
  cases hg : S.decG l p with
  | none => rw [hg] at h; cases h
  | some x =>
    rw [hg] at h
    simp only at h
    obtain ⟨⟨x1, x2⟩, x3⟩ := x
    simp only at h
    split at h
    · rename_i h1
      injection h with h
      injection h with h2 h3
      rw [h1, h2, h3]
    · cases h
theorem decF_1 {l : List UInt8} {p : Nat} (h : nmR l p = none) : decF l p = none := by unfold decF; rw [h]
theorem decF_2 {l : List UInt8} {p : Nat} {a : List UInt8 × Nat} (h : nmR l p = some a) (h2 : S.decG l a.2 = none) : decF l p = none := by unfold decF; rw [h]; dsimp only; rw [h2]
theorem decF_3 {l : List UInt8} {p : Nat} {a : List UInt8 × Nat} {g : (List Int × List Int) × Nat} (h : nmR l p = some a) (h2 : S.decG l a.2 = some g) (h3 : lcR l g.2 = none) : decF l p = none := by
  unfold decF; rw [h]; dsimp only; rw [h2]; dsimp only; rw [h3]
theorem decF_4 {l : List UInt8} {p : Nat} {a : List UInt8 × Nat} {g : (List Int × List Int) × Nat} {c : List Int × Nat} (h : nmR l p = some a) (h2 : S.decG l a.2 = some g) (h3 : lcR l g.2 = some c) (h4 : C.decB l c.2 = none) : decF l p = none := by
  unfold decF; rw [h]; dsimp only; rw [h2]; dsimp only; rw [h3]; dsimp only; rw [h4]
theorem decF_5 {l : List UInt8} {p : Nat} {a : List UInt8 × Nat} {g : (List Int × List Int) × Nat} {c : List Int × Nat} {d : List C.I3 × Nat} (h : nmR l p = some a) (h2 : S.decG l a.2 = some g) (h3 : lcR l g.2 = some c) (h4 : C.decB l c.2 = some d) :
    decF l p = ifF ⟨a.1, g.1.1, g.1.2, c.1, d.1⟩ d.2 := by
  unfold decF; rw [h]; dsimp only; rw [h2]; dsimp only; rw [h3]; dsimp only; rw [h4]
theorem ifF_ok {f : Fu} {q : Nat} (h : okF f = true) : ifF f q = some (f, q) := if_pos h
theorem ifF_no {f : Fu} {q : Nat} (h : okF f = false) : ifF f q = none := if_neg (by rw [h]; decide)
theorem decF_ok {l : List UInt8} {p q : Nat} {f : Fu} (h : decF l p = some (f, q)) : okF f = true ∧ l.drop p = bytesF f ++ l.drop q ∧ q = p + (bytesF f).length := by
  cases h1 : nmR l p with
  | none => rw [decF_1 h1] at h; cases h
  | some a =>
    cases h2 : S.decG l a.2 with
    | none => rw [decF_2 h1 h2] at h; cases h
    | some g =>
      cases h3 : lcR l g.2 with
      | none => rw [decF_3 h1 h2 h3] at h; cases h
      | some c =>
        cases h4 : C.decB l c.2 with
        | none => rw [decF_4 h1 h2 h3 h4] at h; cases h
        | some d =>
          rw [decF_5 h1 h2 h3 h4] at h
          obtain ⟨a, qa⟩ := a
          obtain ⟨⟨ga, gr⟩, qg⟩ := g
          obtain ⟨c, qc⟩ := c
          obtain ⟨d, qd⟩ := d
          dsimp only at h h2 h3 h4
          unfold ifF at h
          split at h
          · rename_i ho
            injection h with h
            injection h with e1 e2
            subst e1 e2
            obtain ⟨a1, a2, _, _⟩ := nmR_ok h1
            obtain ⟨_, b1, b2⟩ := S.decG_ok h2
            obtain ⟨_, c1, c2⟩ := S.decG_ok (lcR_ok h3)
            obtain ⟨_, d1, d2⟩ := C.decB_ok h4
            refine ⟨ho, ?_, ?_⟩
            · unfold bytesF
              dsimp only
              rw [a1, b1, c1, d1]
              simp only [List.append_assoc]
            · unfold bytesF
              simp only [List.length_append] at a2 ⊢
              omega
          · cases h
theorem decF_enc {l t : List UInt8} {p : Nat} {f : Fu} (ho : okF f = true) (h : l.drop p = bytesF f ++ t) : decF l p = some (f, p + (bytesF f).length) := by
  obtain ⟨hn, hg, hk, hb, h64⟩ := (okF_iff f).1 ho
  obtain ⟨nm, ar, rs, lc, bd⟩ := f
  dsimp only at hn hg hk hb h64
  unfold bytesF at h
  dsimp only at h
  simp only [List.append_assoc] at h
  have h1 := nmR_enc (l := l) (p := p) (s := nm) (t := S.bytesG ar rs ++ (S.bytesG lc [] ++ (C.bytesB bd ++ t))) ((okN_iff _).1 hn).1 (by rw [h]; simp only [List.append_assoc])
  have d1 : l.drop (p + (V.encL nm.length ++ nm).length) = S.bytesG ar rs ++ (S.bytesG lc [] ++ (C.bytesB bd ++ t)) := by
    rw [← List.drop_drop, h, ← List.append_assoc, List.drop_left' rfl]
  have h2 := S.decG_enc hg d1
  have hlc : S.okG lc [] = true := (okG_one _).2 ⟨by omega, hk⟩
  have d2 : l.drop (p + (V.encL nm.length ++ nm).length + (S.bytesG ar rs).length) = S.bytesG lc [] ++ (C.bytesB bd ++ t) := by
    rw [← List.drop_drop, d1, List.drop_left' rfl]
  have h3 : lcR l (p + (V.encL nm.length ++ nm).length + (S.bytesG ar rs).length) = some (lc, p + (V.encL nm.length ++ nm).length + (S.bytesG ar rs).length + (S.bytesG lc []).length) := by
    unfold lcR
    rw [S.decG_enc hlc d2]
    exact if_pos rfl
  have d3 : l.drop (p + (V.encL nm.length ++ nm).length + (S.bytesG ar rs).length + (S.bytesG lc []).length) = C.bytesB bd ++ t := by
    rw [← List.drop_drop, d2, List.drop_left' rfl]
  have h4 := C.decB_enc hb d3
  rw [decF_5 h1 h2 h3 h4, ifF_ok ho]
  unfold bytesF
  simp only [List.length_append, Nat.add_assoc]
/-- What Decode hands out. -/
def nilF : Fu := ⟨[], [], [], [], []⟩
def decV (l : List UInt8) (p : Nat) : Fu := match decF l p with
  | none => nilF
  | some x => x.1
def decC (l : List UInt8) (p : Nat) : Int := match decF l p with
  | none => 70
  | some _ => 0
def decP (l : List UInt8) (p : Nat) : Nat := match decF l p with
  | none => 0
  | some x => x.2
theorem dec_none {l : List UInt8} {p : Nat} (h : decF l p = none) : decV l p = nilF ∧ decC l p = 70 := by unfold decV decC; rw [h]; exact ⟨rfl, rfl⟩
theorem dec_some {l : List UInt8} {p q : Nat} {f : Fu} (h : decF l p = some (f, q)) : decV l p = f ∧ decC l p = 0 ∧ decP l p = q := by unfold decV decC decP; rw [h]; exact ⟨rfl, rfl, rfl⟩
/-- Two functions that may be are the same just if their bytes are. -/
theorem bytesF_inj {f g : Fu} (hf : okF f = true) (hg : okF g = true) : bytesF f = bytesF g ↔ f = g := by
  constructor
  · intro h
    have h1 := decF_enc (l := bytesF f) (p := 0) (t := []) hf (by simp)
    have h2 := decF_enc (l := bytesF f) (p := 0) (t := []) hg (by simp [h])
    rw [h1] at h2
    injection h2 with h2
    injection h2 with h2 _
  · rintro rfl; rfl

end Go.Proofs.YtbnekeomdhljhaaGreatDoor.F

namespace Go.Proofs.YtbnekeomdhljhaaGreatDoor
open Go.RowKit

section
variable {P : Program} {ops : Array Oper} {md : Region.Mode}

/-- Behind number n each waits for one behind, or for it. -/
def chain2 (md : Region.Mode) (ops : Array Oper) (n : Nat) : Bool := (List.range ops.size).all fun t => decide (t ≤ n) || (List.range t).any fun j => decide (n ≤ j) && Region.waitsFor md ops t j

theorem head_only {n : Nat} {listed : Array Bool} (hs : Region.sinkB md ops n = true) (hc : chain2 md ops n = true) (inv : HeadInv md ops n listed) :
    ∀ (d i : Nat), n - i = d → i < n → listed.getD i true = false → ∀ t, t ∈ Region.ready md ops listed → t < n := by
  intro d
  induction d using Nat.strongRecOn with
  | _ d ih =>
    intro i hd hi hu t ht
    obtain ⟨htu, ot, hot, hall⟩ := mem_ready.1 ht
    have hts : t < ops.size := (Array.getElem?_eq_some_iff.1 hot).1
    rcases Nat.lt_trichotomy t n with h | h | h
    · exact h
    · subst h
      have h1 := List.all_eq_true.1 hs i (List.mem_range.2 hi)
      obtain ⟨j, hj, hjb⟩ := List.any_eq_true.1 h1
      simp only [Bool.and_eq_true, decide_eq_true_eq] at hjb
      have hjn : j ≤ t := by have := List.mem_range.1 hj; omega
      obtain ⟨oj, hoj, e, he, heb, heo⟩ := Region.waitsFor_spec hjb.2
      by_cases hjt : j = t
      · subst hjt
        obtain rfl : oj = ot := Option.some.inj (hoj.symm.trans hot)
        have := hall e he heb
        rw [heo, getD_both hu] at this; cases this
      · refine ih (t - j) (by omega) j rfl (by omega) (getD_in (by rw [inv.size]; omega) ?_) t ht
        cases hl : listed.getD j false
        · rfl
        · have := inv.closed j oj hoj hl e he heb
          rw [heo, getD_both hu] at this; cases this
    · have h1 := List.all_eq_true.1 hc t (List.mem_range.2 hts)
      simp only [Bool.or_eq_true, decide_eq_true_eq] at h1
      rcases h1 with h1 | h1
      · omega
      · obtain ⟨j, hj, hjb⟩ := List.any_eq_true.1 h1
        simp only [Bool.and_eq_true, decide_eq_true_eq] at hjb
        obtain ⟨oj, hoj, e, he, heb, heo⟩ := Region.waitsFor_spec hjb.2
        obtain rfl : oj = ot := Option.some.inj (hoj.symm.trans hot)
        have h2 := hall e he heb
        have := List.mem_range.1 hj
        rw [heo, getD_both (inv.tail j hjb.1 (by omega))] at h2; cases h2

/-- Whatever order is picked, up to the neck. -/
def wpAnyC (P : Program) (md : Region.Mode) (ops : Array Oper) (n : Nat) (L : Array Bool → Kont) : Nat → Array Bool → Act → (World → Prop) → Prop
  | 0, listed, a, I => L listed a I
  | fuel + 1, listed, a, I => Region.ready md ops listed ≠ [] ∧ ∀ i ∈ Region.ready md ops listed, i < n ∧ mOp P ops true i (wpAnyC P md ops n L fuel (listed.setIfInBounds i true)) a I

theorem wpAny_of_C {n g : Nat} {L : Array Bool → Kont} {Q' : Exit → Act → World → Prop} (hL : ∀ listed a I w, I w → L listed a I → wpAny P md ops Q' g listed a w) :
    ∀ (f : Nat) (listed : Array Bool) (a : Act) (I : World → Prop) (w : World), StableI I → I w → wpAnyC P md ops n L f listed a I → wpAny P md ops Q' (f + g) listed a w
  | 0, listed, a, I, w, _, hw, h => by rw [Nat.zero_add]; exact hL _ _ _ _ hw h
  | f + 1, listed, a, I, w, hI, hw, h => by
    rw [show f + 1 + g = (f + g) + 1 by omega]
    exact ⟨fun h0 => absurd h0 h.1, fun i hi => wpOp_of_mOp hI hw (fun a' I' w' hI' hw' hk => wpAny_of_C hL f _ a' I' w' hI' hw' hk) (h.2 i hi).2⟩

theorem wpAnyC_first {n0 : Nat} {L : Array Bool → Kont} (hs : Region.sinkB md ops n0 = true) (hc : chain2 md ops n0 = true) (hL : ∀ listed a I, L listed a I → ∀ j ∈ Region.ready md ops listed, n0 ≤ j) {i : Nat} (hin : i < n0) {oi : Oper} {v : Value} (hi : ops[i]? = some oi) (hsel : ∀ (j : Nat) (o : Oper) cs b, ops[j]? = some o → o.op ≠ .select cs b) :
    ∀ (fuel : Nat) (listed : Array Bool) (a : Act) (I : World → Prop), HeadInv md ops n0 listed →
      (∀ j oj, ops[j]? = some oj → j ≠ i → listed.getD j true = false → (∀ e ∈ oj.after, Region.binds md e = true → e.on ≠ i) → oi.apart ops oj = true) →
      i ∈ Region.ready md ops listed → YM P ops oi v a I →
      wpAnyC P md ops n0 L fuel (listed.setIfInBounds i true) (a.put oi.dst v) I → wpAnyC P md ops n0 L (fuel + 1) listed a I := by
  intro fuel
  induction fuel with
  | zero =>
    intro listed a I inv _ hr hy H
    refine ⟨fun h => (by rw [h] at hr; cases hr), fun j hj => ⟨head_only hs hc inv _ i rfl hin (mem_ready.1 hr).1 j hj, ?_⟩⟩
    have hjn := head_only hs hc inv _ i rfl hin (mem_ready.1 hr).1 j hj
    by_cases hji : j = i
    · subst hji; exact hy.mOp hi H
    · have := hL _ _ _ H j (ready_mono hj hji)
      omega
  | succ fuel ih =>
    intro listed a I inv hfree hr hy H
    refine ⟨fun h => (by rw [h] at hr; cases hr), fun j hj => ⟨head_only hs hc inv _ i rfl hin (mem_ready.1 hr).1 j hj, ?_⟩⟩
    have hjn := head_only hs hc inv _ i rfl hin (mem_ready.1 hr).1 j hj
    by_cases hji : j = i
    · subst hji; exact hy.mOp hi H
    · have h1 := (H.2 j (ready_mono hj hji)).2
      obtain ⟨hjun, oj, hoj, hall⟩ := mem_ready.1 hj
      have h2 := mOp_put hoj (hfree j oj hoj hji hjun (not_waits hr hall)) (fun cs b => hsel i oi cs b hi) (fun cs b => hsel j oj cs b hoj) hy h1
      have hfree' : ∀ k ok, ops[k]? = some ok → k ≠ i → (listed.setIfInBounds j true).getD k true = false →
          (∀ e ∈ ok.after, Region.binds md e = true → e.on ≠ i) → oi.apart ops ok = true := fun k ok hk hki hun hno => by
        refine hfree k ok hk hki ?_ hno
        by_cases hjk : j = k
        · subst hjk; exact hjun
        · rw [getD_set_ne true hjk] at hun; exact hun
      refine mOp_mono id (fun a' I' h3 => ih (listed.setIfInBounds j true) a' I' (inv.set hj hjn) hfree' (ready_mono hr (Ne.symm hji)) h3.1 ?_) h2
      rw [Array.setIfInBounds_comm _ _ hji]
      exact h3.2

/-- An operation that makes a block may be taken first, if nothing else but such may come up ahead of it. -/
theorem wpAnyC_make {n0 : Nat} {L : Array Bool → Kont} (hs : Region.sinkB md ops n0 = true) (hc : chain2 md ops n0 = true) (hL : ∀ listed a I, L listed a I → ∀ j ∈ Region.ready md ops listed, n0 ≤ j) {i : Nat} (hin : i < n0) {oi : Oper} (hi : ops[i]? = some oi) (hm : isMake oi = true) (hsel : ∀ (j : Nat) (o : Oper) cs b, ops[j]? = some o → o.op ≠ .select cs b) {mk : Nat → Value} {obj : Obj} :
    ∀ (fuel n : Nat) (listed : Array Bool) (a : Act) (I : World → Prop), HeadInv md ops n0 listed →
      (∀ j oj, ops[j]? = some oj → j ≠ i → listed.getD j true = false → (∀ e ∈ oj.after, Region.binds md e = true → e.on ≠ i) → oi.apart ops oj = true) →
      onlyMakes md ops i n listed = true → i ∈ Region.ready md ops listed → Region.wanted oi (yielded ops a.tmps) = true → Make1 P oi a mk obj →
      (∀ g, wpAnyC P md ops n0 L fuel (listed.setIfInBounds i true) (a.put oi.dst (mk g)) fun w => I w ∧ w.heap[g]? = some obj) → wpAnyC P md ops n0 L (fuel + 1) listed a I := by
  intro fuel
  have own : ∀ (fuel : Nat) (listed : Array Bool) (a : Act) (I : World → Prop), Region.wanted oi (yielded ops a.tmps) = true → Make1 P oi a mk obj →
      (∀ g, wpAnyC P md ops n0 L fuel (listed.setIfInBounds i true) (a.put oi.dst (mk g)) fun w => I w ∧ w.heap[g]? = some obj) → mOp P ops true i (wpAnyC P md ops n0 L fuel (listed.setIfInBounds i true)) a I := by
    intro fuel listed a I hw hk H
    unfold mOp
    simp only [hi, hw, if_true, hm]
    exact ⟨mk, obj, hk, H⟩
  induction fuel with
  | zero =>
    intro n listed a I inv _ _ hr hw hk H
    refine ⟨fun h => (by rw [h] at hr; cases hr), fun j hj => ⟨head_only hs hc inv _ i rfl hin (mem_ready.1 hr).1 j hj, ?_⟩⟩
    have hjn := head_only hs hc inv _ i rfl hin (mem_ready.1 hr).1 j hj
    by_cases hji : j = i
    · subst hji; exact own _ _ _ _ hw hk H
    · have := hL _ _ _ (H 0) j (ready_mono hj hji)
      omega
  | succ fuel ih =>
    intro n listed a I inv hfree hom hr hw hk H
    refine ⟨fun h => (by rw [h] at hr; cases hr), fun j hj => ⟨head_only hs hc inv _ i rfl hin (mem_ready.1 hr).1 j hj, ?_⟩⟩
    have hjn := head_only hs hc inv _ i rfl hin (mem_ready.1 hr).1 j hj
    by_cases hji : j = i
    · subst hji; exact own _ _ _ _ hw hk H
    · obtain ⟨m, rfl⟩ : ∃ m, n = m + 1 := by
        cases n with
        | zero => cases hom
        | succ m => exact ⟨m, rfl⟩
      have hom' := List.all_eq_true.1 hom j hj
      obtain ⟨hjun, oj, hoj, hall⟩ := mem_ready.1 hj
      simp only [beq_iff_eq, hji, Bool.or_eq_true, false_or, hoj, Option.map_some, Option.getD_some, Bool.and_eq_true] at hom'
      obtain ⟨hmj, hom2⟩ := hom'
      have hap := hfree j oj hoj hji hjun (not_waits hr hall)
      obtain ⟨h1, h2, h3⟩ := Oper.apart_spec hap
      have hsi := fun cs b => hsel i oi cs b hi
      have hsj := fun cs b => hsel j oj cs b hoj
      have hfree' : ∀ k ok, ops[k]? = some ok → k ≠ i → (listed.setIfInBounds j true).getD k true = false →
          (∀ e ∈ ok.after, Region.binds md e = true → e.on ≠ i) → oi.apart ops ok = true := fun k ok hk hki hun hno => by
        refine hfree k ok hk hki ?_ hno
        by_cases hjk : j = k
        · subst hjk; exact hjun
        · rw [getD_set_ne true hjk] at hun; exact hun
      have on : ∀ (u : Value) (I' : World → Prop), (∀ g, wpAnyC P md ops n0 L fuel ((listed.setIfInBounds i true).setIfInBounds j true) ((a.put oi.dst (mk g)).put oj.dst u) fun w => I' w ∧ w.heap[g]? = some obj) →
          wpAnyC P md ops n0 L (fuel + 1) (listed.setIfInBounds j true) (a.put oj.dst u) I' := fun u I' hK => by
        refine ih m (listed.setIfInBounds j true) (a.put oj.dst u) I' (inv.set hj hjn) hfree' hom2 (ready_mono hr (Ne.symm hji)) ?_ ?_ fun g => ?_
        · rw [wanted_put oi a oj.dst u h3]; exact hw
        · unfold Make1 at *; rw [execOp_put oi hsi a oj.dst u h3]; exact hk
        · rw [Array.setIfInBounds_comm _ _ hji, ← Act.put_comm a (mk g) u h2]; exact hK g
      have H1 : ∀ g, mOp P ops true j (wpAnyC P md ops n0 L fuel ((listed.setIfInBounds i true).setIfInBounds j true)) (a.put oi.dst (mk g)) fun w => I w ∧ w.heap[g]? = some obj := fun g => ((H g).2 j (ready_mono hj hji)).2
      unfold mOp at H1 ⊢
      simp only [hoj, hmj, if_true] at H1 ⊢
      split
      · rename_i hwj
        have H2 : ∀ g, ∃ mk' obj', Make1 P oj (a.put oi.dst (mk g)) mk' obj' ∧ ∀ g', wpAnyC P md ops n0 L fuel ((listed.setIfInBounds i true).setIfInBounds j true) ((a.put oi.dst (mk g)).put oj.dst (mk' g')) fun w => (I w ∧ w.heap[g]? = some obj) ∧ w.heap[g']? = some obj' := fun g => by
          have := H1 g
          rwa [wanted_put oj a oi.dst (mk g) h1, if_pos hwj] at this
        have hmk : ∀ g mk' obj', Make1 P oj (a.put oi.dst (mk g)) mk' obj' → Make1 P oj a mk' obj' := fun g mk' obj' h => by
          unfold Make1 at *; rwa [execOp_put oj hsj a oi.dst (mk g) h1] at h
        obtain ⟨mkj, objj, k1, _⟩ := H2 0
        refine ⟨mkj, objj, hmk _ _ _ k1, fun g' => on _ _ fun g => ?_⟩
        obtain ⟨mk', obj', k1', k2⟩ := H2 g
        obtain ⟨rfl, rfl⟩ := make_same (hmk _ _ _ k1) (hmk _ _ _ k1')
        have e : (fun w : World => (I w ∧ w.heap[g']? = some obj') ∧ w.heap[g]? = some obj) = fun w => (I w ∧ w.heap[g]? = some obj) ∧ w.heap[g']? = some obj' := funext fun w => propext (and_right_comm)
        rw [e]
        exact k2 g'
      · rename_i hwj
        refine on _ _ fun g => ?_
        have := H1 g
        rwa [wanted_put oj a oi.dst (mk g) h1, if_neg hwj] at this

/-- The order may be chosen, and comes to the neck. -/
def orderC (md : Region.Mode) (ops : Array Oper) (n : Nat) (fin : Array Bool) : List (Nat × Bool) → Array Bool → Bool
  | [], listed => listed == fin && (Region.ready md ops listed).all fun j => decide (n ≤ j)
  | (i, gen) :: rest, listed => decide (i < n) && (Region.ready md ops listed).contains i && (if gen then Region.ready md ops listed == [i] else Region.free md ops listed i && (!((ops[i]?).map isMake).getD false || onlyMakes md ops i ops.size listed)) && orderC md ops n fin rest (listed.setIfInBounds i true)

/-- Where the neck stands. -/
def NeckL (md : Region.Mode) (ops : Array Oper) (n : Nat) (fin : Array Bool) (Q : Act → World → Prop) (listed : Array Bool) (a : Act) (I : World → Prop) : Prop :=
  (listed = fin ∧ ∀ j ∈ Region.ready md ops listed, n ≤ j) ∧ ∀ w, I w → Q a w

theorem wpAnyC_order {n : Nat} {fin : Array Bool} {Q : Act → World → Prop} (hsel : Region.noSelect ops = true) (hs : Region.sinkB md ops n = true) (hc : chain2 md ops n = true) : ∀ (l : List (Nat × Bool)) (listed : Array Bool) (a : Act) (I : World → Prop),
    HeadInv md ops n listed → orderC md ops n fin l listed = true → wpM P ops Q l a I → wpAnyC P md ops n (NeckL md ops n fin Q) l.length listed a I
  | [], _, _, _, _, hB, h => by
    simp only [orderC, Bool.and_eq_true, beq_iff_eq] at hB
    exact ⟨⟨hB.1, fun j hj => by simpa using List.all_eq_true.1 hB.2 j hj⟩, h⟩
  | (i, gen) :: rest, listed, a, I, inv, hB, h => by
    simp only [orderC, Bool.and_eq_true, decide_eq_true_eq] at hB
    obtain ⟨⟨⟨hin, hr⟩, hcc⟩, hB'⟩ := hB
    have hr : i ∈ Region.ready md ops listed := by simpa using hr
    obtain ⟨hun, oi, hi, _⟩ := mem_ready.1 hr
    have go := fun a' I' hK => wpAnyC_order (Q := Q) hsel hs hc rest (listed.setIfInBounds i true) a' I' (inv.set hr hin) hB' hK
    have hLL : ∀ listed a I, NeckL md ops n fin Q listed a I → ∀ j ∈ Region.ready md ops listed, n ≤ j := fun _ _ _ h => h.1.2
    cases gen with
    | true =>
      simp only [if_true, beq_iff_eq] at hcc
      refine ⟨fun h => (by rw [h] at hr; cases hr), fun j hj => ⟨head_only hs hc inv _ i rfl hin hun j hj, ?_⟩⟩
      rw [hcc] at hj
      obtain rfl := List.mem_singleton.1 hj
      exact mOp_mono id go h
    | false =>
      simp only [Bool.false_eq_true, if_false, Bool.and_eq_true, hi, Option.map_some, Option.getD_some, Bool.or_eq_true, Bool.not_eq_true'] at hcc
      obtain ⟨hf, hmk⟩ := hcc
      have hfree := Region.free_spec (md := md) hi hf
      change mOp P ops false i (wpM P ops Q rest) a I at h
      unfold mOp at h
      simp only [hi] at h
      split at h
      · rename_i hw
        split at h
        · rename_i hm
          obtain ⟨mk, obj, k1, k2⟩ := h
          rcases hmk with hmk | hmk
          · rw [hm] at hmk; cases hmk
          · exact wpAnyC_make hs hc hLL hin hi hm (Region.noSelect_spec hsel) rest.length ops.size listed a I inv hfree hmk hr hw k1 fun g => go _ _ (k2 g)
        · rename_i hm
          rcases h with ⟨v, k1, k2⟩ | ⟨hg, _⟩
          · exact wpAnyC_first hs hc hLL hin hi (Region.noSelect_spec hsel) rest.length listed a I inv hfree hr (.inl ⟨hw, by simpa using hm, k1⟩) (go _ _ k2)
          · cases hg
      · rename_i hw
        exact wpAnyC_first hs hc hLL hin hi (Region.noSelect_spec hsel) rest.length listed a I inv hfree hr (.inr ⟨by simpa using hw, rfl⟩) (go _ _ h)

def neckB (ops : Array Oper) (n : Nat) (fin : Array Bool) (l : List (Nat × Bool)) : Bool :=
  Region.noSelect ops && Region.sinkB .any ops n && chain2 .any ops n && decide (l.length = n) && decide (n < ops.size) && orderC .any ops n fin l (Array.replicate ops.size false)

/-- A region with a neck: what lies ahead, in an order of one's own choice; then whatever order there is from the neck on. -/
theorem wp_region_neck {id : Nat} {Q : Exit → Act → World → Prop} {a : Act} {w : World} (n : Nat) (fin : Array Bool) (l : List (Nat × Bool)) (I : World → Prop) (hm : P.follows .mixedOrders = true) (hB : neckB ops n fin l = true) (hI : StableI I) (hw : I w.drew)
    (h : Shut (wpM P ops (fun a' w' => wpAny P .any ops Q (ops.size - n) fin a' w') l a I)) : (Code.region id ops true).wp P Q a w := by
  simp only [neckB, Bool.and_eq_true, decide_eq_true_eq] at hB
  obtain ⟨⟨⟨⟨⟨hsel, hs⟩, hc⟩, hl⟩, hn⟩, ho⟩ := hB
  have inv0 : HeadInv .any ops n (Array.replicate ops.size false) :=
    ⟨by simp, fun j oj _ hl => (by rw [getD_replicate_false] at hl; cases hl), fun t _ ht => getD_in (by simpa using ht) (getD_replicate_false _ _)⟩
  have H := wpAnyC_order (P := P) (md := .any) hsel hs hc l _ a I inv0 ho h.out
  refine wp_region_any hm ?_
  have := wpAny_of_C (Q' := Q) (g := ops.size - n) (fun listed a' I' w' hw' hL => by
    obtain ⟨⟨e, _⟩, h2⟩ := hL
    rw [e]; exact h2 _ hw') _ _ _ _ _ hI hw H
  rw [hl, show n + (ops.size - n) = ops.size by omega] at this
  exact this

/-- The neck comes up alone. -/
theorem wpAny_neck {Q : Exit → Act → World → Prop} {f i : Nat} {listed : Array Bool} {a : Act} {w : World} {l tl : List Oper} {o : Oper} (hr : Region.ready md l.toArray listed = [i]) (ho : l.drop i = o :: tl) (hw : Region.wanted o (yielded l.toArray a.tmps) = true)
    (h : o.wp P a w (fun a' w' => wpAny P md l.toArray Q f (listed.setIfInBounds i true) a' w') Q) : wpAny P md l.toArray Q (f + 1) listed a w := by
  have ho := at_drop ho
  refine ⟨fun h0 => (by rw [hr] at h0; cases h0), fun j hj => ?_⟩
  rw [hr] at hj
  obtain rfl := List.mem_singleton.1 hj
  unfold wpOp
  simp only [ho, hw, if_true]
  exact .inl h
/-- What lies behind, in an order of one's own choice. -/
theorem wpAny_behind {Q : Exit → Act → World → Prop} {f : Nat} {listed : Array Bool} {a : Act} {w : World} (l : List (Nat × Bool)) (I : World → Prop) (hs : Region.noSelect ops = true) (hl : l.length = f) (hB : orderM md ops l listed = true) (hI : StableI I) (hw : I w)
    (h : Shut (wpM P ops (Q .normal) l a I)) : wpAny P md ops Q f listed a w := by
  have := wpAny_of_M (Q := Q .normal) (fun _ _ h => h) _ _ _ I _ hI hw (wpAnyM_order hs l _ a I hB h.out)
  rwa [hl] at this

end
end Go.Proofs.YtbnekeomdhljhaaGreatDoor
