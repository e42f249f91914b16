/-
  The builtin copy of whole elements onto the first ones of a slice that is owned; and slices.Clone of lists. No conditions.
  A function's slots' values at its begin, and a call's results: what Begin and Results answer. Conditions: the function's lists, and the values, lie in memory, and are no longer than statements go through.
  What the laws' own alive answers: true. No conditions.
  A map from numbers to numbers that a call makes: what each key has. No program, no conditions.
  FunctionParts' walk: slots are arguments, results and locals, as many as there are, and each tells its type; pointers are those of type P. Conditions: the function's lists lie in memory.
  What the rows of opcode share: the condition on the listed package-level variables, opened; an instruction as an argument. No conditions.
  An argument that is a slice of bytes, opened: an address from which a list of bytes stands. No conditions.
  What the rows of opcode share where strings.Cut is called, or bytes come in: the wrap that keeps the world's shape beside the laid variables. No conditions.
  An argument that is a list of instructions, opened: an address from which its cells stand; its numbers fit. No conditions.
  The arguments of the laws: functions, and lists of values, opened. No conditions.
-/
import Derived.ChangeSame
import Derived.Deep.Fields
import Derived.Deep.Slices
import Derived.Deep.Strs
import Derived.HandedShaped
import Derived.LaidLaws
import Derived.LaidMore
import Derived.Laws.CopyOwn
import Derived.Lib.LaidTab
import Derived.Lib.SmallJoins
import Derived.Maps.Keyed
import Derived.Maps.Own
import Derived.Maps.OwnIn
import Derived.Maps.OwnOps
import Derived.Maps.OwnSet
import Derived.Maps.Views
import Derived.OpenShut
import Derived.ProofKit
import Derived.Shelf.Vars
import Derived.SizedLaws
import Derived.Stop.LaidErr
import Derived.WalkArith
import Derived.Test.YtbnekeomdhljhaaDoorQ2
import Derived.Test.YtbnekeomdhljhaaDoorQ6
import Derived.Test.YtbnekeomdhljhaaDoorQ4
import Derived.Test.YtbnekeomdhljhaaDoorQ5
import Derived.Test.YtbnekeomdhljhaaDoorRows
namespace Go.Proofs.YtbnekeomdhljhaaDoor
open Go.RowKit

theorem run_copy_own {P : Program} {w : World} (dT sT ty elem : TypeId) (k : Nat) (hk : 0 < k) (hu : P.underlying dT = some (.slice elem)) (hsz : (P.info? elem).map (·.size) = some k) (v : Value) (n : Nat) (xs : List Value) (hO : w.ownsRow 0 elem k v n xs)
    (X : Option Addr) (m c : Nat) (ys : List Value) (hr : Rd w X ys) (hl : ys.length = m * k) (hmn : m ≤ n) (h1 : ∀ u ∈ ys, u.oneCell' = true) :
    ∃ w', (Builtin.copy_ #[dT, sT] ty #[v, .slice X m c]).run P w = .ok (goInt m) w' ∧ w'.ownsRow 0 elem k v n (ys ++ xs.drop ys.length) ∧ Keep (fun b => v.ownBlock = some b) w w' := by
  have hmin : Nat.min m n = m := Nat.min_eq_left hmn
  cases hq : P.info? elem with
  | none => simp [hq] at hsz
  | some i =>
  have hi : i.size = k := by simpa [hq] using hsz
  have hnil : m = 0 → ∃ w', (Builtin.copy_ #[dT, sT] ty #[v, .slice X m c]).run P w = .ok (goInt m) w' ∧ w'.ownsRow 0 elem k v n (ys ++ xs.drop ys.length) ∧ Keep (fun b => v.ownBlock = some b) w w' := by
    rintro rfl
    obtain rfl : ys = [] := List.length_eq_zero_iff.1 (by rw [hl, Nat.zero_mul])
    refine ⟨w, ?_, by simpa using hO, Keep.refl _ _⟩
    have hl0 : ∀ (x : Addr), (loadCells x 0).run P w = .ok #[] w := fun x => by simpa using run_loadCells_list (P := P) w x [] (by simp)
    rcases hO.2 with ⟨rfl, _⟩ | ⟨g, cap, cur, rfl, _⟩
    · cases X <;> simp [Builtin.copy_, run_underlying hu, Builtin.lenOf, Builtin.firstCells, sizeOf, typeInfo, hq, hl0]
    · cases X <;> simp [Builtin.copy_, run_underlying hu, Builtin.lenOf, Builtin.firstCells, sizeOf, typeInfo, hq, hmin, storeCells, hl0]
  by_cases h0 : m = 0
  · exact hnil h0
  · have hpos : 0 < ys.length := by rw [hl]; exact Nat.mul_pos (by omega) hk
    obtain ⟨gx, ox, rfl, hcx⟩ := hr hpos
    rcases hO.2 with ⟨rfl, hn0⟩ | ⟨g, cap, cur, rfl, hb, hg, hnc, hcm, hsc, hcx2⟩
    · omega
    · have hsrc : ∀ j u, ys[j]? = some u → w.cell? ((⟨gx, ox, none⟩ : Addr).add j) = some u := fun j u hj => by
        have ea : (⟨gx, ox, none⟩ : Addr).add j = ⟨gx, ox + j, none⟩ := by unfold Addr.add; by_cases h : j = 0 <;> simp [h]
        rw [ea]; exact hcx j u hj
      have hxl : xs.length = n * k := hO.1
      have hle : ys.length ≤ n * k := by rw [hl]; exact Nat.mul_le_mul_right k hmn
      have hnk : n * k ≤ cur.size := by rw [hsc]; exact Nat.mul_le_mul_right k hnc
      have hload := run_loadCells_list (P := P) w ⟨gx, ox, none⟩ ys hsrc
      have hst := run_storeCells_at P g 0 elem ys 0 cur w hg (by omega) h1
      have e : cur.toList.take (0 + 0) ++ ys ++ cur.toList.drop (0 + 0 + ys.length) = ys ++ cur.toList.drop ys.length := by simp
      rw [e] at hst
      refine ⟨w.setRow g (ys ++ cur.toList.drop ys.length).toArray, ?_, ⟨?_, .inr ⟨g, cap, _, rfl, hb, setRow_heap w g cur _ elem _ hg, hnc, hcm, ?_, ?_⟩⟩, ⟨rfl, rfl, rfl, by simp [World.setRow], fun b _ hne => setRow_other w g b _ (fun e => hne (by subst e; rfl))⟩⟩
      · simp [Builtin.copy_, run_underlying hu, Builtin.lenOf, Builtin.firstCells, sizeOf, typeInfo, hq, hi, hmin, ← hl, hload, hst]
      · rw [List.length_append, List.length_drop, hxl]; omega
      · have e2 : cur.toList.length = cur.size := Array.length_toList
        rw [List.size_toArray, List.length_append, List.length_drop]; omega
      · show (ys ++ cur.toList.drop ys.length).take (n * k) = _
        rw [List.take_append, List.take_of_length_le hle, ← hcx2, List.drop_take]

/-- slices.Clone of a list. -/
theorem clone_own {w W : World} {E size n : Nat} {A' : Option Addr} {c' : Nat} {xs : List Value} (hrow : W.ownsRow 0 E size (.slice A' n c') n xs) (hg : (w.alloc (.cells #[] E)).grownBy W (some w.heap.size)) (hat : (Value.slice A' n c').ownBlock = some w.heap.size ∨ (Value.slice A' n c').ownBlock = some (w.alloc (.cells #[] E)).heap.size) :
    Own W E size (Fresh w) (.slice A' n c') n xs ∧ Keep NoB w W := by
  refine ⟨⟨hrow, fun g e => ?_⟩, ((Keep.refl NoB w).alloc _).grown hg (fun g e hlt => by cases e; omega)⟩
  rcases hat with h | h <;> rw [h] at e <;> cases e <;> simp [Fresh]

set_option maxHeartbeats 800000 in
theorem cloneVals_any (w : World) (A : Option Addr) (xs : List Value) (n c : Nat) (hr : Rd w A xs) (hl : xs.length = n * 2) (h1 : ∀ u ∈ xs, u.oneCell' = true) (hb : n ≤ 1000) :
    Calls Tryd.prog 31 #[.slice A n c] w fun e w' => ∃ v, e = .returned v ∧ Own w' 39 2 (Fresh w) v n xs ∧ Keep NoB w w' := by
  obtain ⟨i0, hi, hz0, hz1, hz2⟩ := info_parts val_info
  have qT : ∀ (w : World) (a : Option Addr) (n c n' c' : Nat), (binOp .eql 28 (.slice a n c) (.slice none n' c')).run Tryd.prog w = .ok (.bool a.isNone) w := fun w a n c n' c' => Lib.run_eql_slice_nil w _ _ a n c n' c' Tryd.underlying28
  rcases A with _ | ad
  · have hx : xs = [] := by
      rcases Nat.eq_zero_or_pos xs.length with h0 | h0
      · exact List.length_eq_zero_iff.1 h0
      · obtain ⟨g, off, e, _⟩ := hr h0; cases e
    subst hx
    obtain rfl : n = 0 := by simp at hl; omega
    go_enter Tryd.func31, Tryd.ntmps31
    go_wp2
    go_ret
    exact ⟨_, rfl, Own.nil _ _ _ _, Keep.refl _ _⟩
  · have hm := World.ownsRow_made (e := 39) (size := 2) (base := 0) w #[] 0 (Nat.zero_le _) (Nat.zero_le _) rfl
    have hr' := hr.keepN ((Keep.refl NoB w).alloc (.cells #[] 39))
    have HL := Lib.hid hl
    have HO := Lib.hid h1
    have HR := Lib.hid hr'
    clear hr hr' hl h1
    go_enter Tryd.func31, Tryd.ntmps31
    go_wp2_with (at_builtin; refine wpList_append_rd _ rfl (.tmp 5) (.tmp 6) _ rfl 39 2 16 i0 _ Tryd.underlying28 hi hz0 hz1 hz2 rfl (by decide) (.slice (some ⟨w.heap.size, 0, none⟩) 0 0) 0 [] (some ad) n c xs rfl hm rfl HR.out HL.out HO.out (by unfold maxLen; omega) (by omega) ?_; intro A5 c5 w5 hrow5 hg5 hv5; rw [Nat.zero_add] at hrow5 hv5 ⊢; rw [List.nil_append] at hrow5; obtain ⟨hO5, hK5⟩ := clone_own hrow5 hg5 hv5)
    go_ret
    exact ⟨_, rfl, hO5, hK5⟩

theorem inst_info : (Tryd.prog.info? 69).map (fun i => (i.zero, i.size, i.bytes)) = some (some (.agg #[.int .i64 0, .int .i64 0, .int .i64 0]), 3, 24) := by kernel_rfl

end Go.Proofs.YtbnekeomdhljhaaDoor

namespace Go.Proofs.YtbnekeomdhljhaaDoor.F
open Go.RowKit W

theorem sl_known {f : Fu} (h : okF f = true) : (sl f).all knownB = true := by
  obtain ⟨_, hg, hl, _⟩ := (okF_iff f).1 h
  obtain ⟨_, ha, hr⟩ := (S.okG_iff _ _).1 hg
  unfold sl
  rw [List.all_append, List.all_append, ha, S.all_known hr, hl]; rfl
/-- Values at the begin; a call's results. -/
def begV (f : Fu) (x : List (Int × Int)) : List (Int × Int) := x ++ zs ((sl f).drop x.length)
def resV (f : Fu) (x : List (Int × Int)) : List (Int × Int) := (x.drop f.ar.length).take f.rs.length
def begE (f : Fu) (x : List (Int × Int)) : Int := if okF f = true then (if fitsB f.ar x = true then 0 else 73) else 70
def begL (f : Fu) (x : List (Int × Int)) : List (Int × Int) := if okF f = true ∧ fitsB f.ar x = true then begV f x else []
def resE (f : Fu) (x : List (Int × Int)) : Int := if okF f = true then (if fitsB (sl f) x = true then 0 else 72) else 70
def resL (f : Fu) (x : List (Int × Int)) : List (Int × Int) := if okF f = true ∧ fitsB (sl f) x = true then resV f x else []
theorem beg_1 {f : Fu} (x : List (Int × Int)) (h : okF f = false) : begE f x = 70 ∧ begL f x = [] := ⟨if_neg (by rw [h]; decide), if_neg (by rw [h]; simp)⟩
theorem beg_2 {f : Fu} {x : List (Int × Int)} (h : okF f = true) (h2 : fitsB f.ar x = false) : begE f x = 73 ∧ begL f x = [] := ⟨by unfold begE; rw [if_pos h, if_neg (by rw [h2]; decide)], if_neg (by rw [h2]; simp)⟩
theorem beg_3 {f : Fu} {x : List (Int × Int)} (h : okF f = true) (h2 : fitsB f.ar x = true) : begE f x = 0 ∧ begL f x = begV f x := ⟨by unfold begE; rw [if_pos h, if_pos h2], if_pos ⟨h, h2⟩⟩
theorem res_1 {f : Fu} (x : List (Int × Int)) (h : okF f = false) : resE f x = 70 ∧ resL f x = [] := ⟨if_neg (by rw [h]; decide), if_neg (by rw [h]; simp)⟩
theorem res_2 {f : Fu} {x : List (Int × Int)} (h : okF f = true) (h2 : fitsB (sl f) x = false) : resE f x = 72 ∧ resL f x = [] := ⟨by unfold resE; rw [if_pos h, if_neg (by rw [h2]; decide)], if_neg (by rw [h2]; simp)⟩
theorem res_3 {f : Fu} {x : List (Int × Int)} (h : okF f = true) (h2 : fitsB (sl f) x = true) : resE f x = 0 ∧ resL f x = resV f x := ⟨by unfold resE; rw [if_pos h, if_pos h2], if_pos ⟨h, h2⟩⟩
theorem vvs_drop (l : List (Int × Int)) (k : Nat) : (vvs l).drop (k * 2) = vvs (l.drop k) := by
  induction l generalizing k with
  | nil => simp [vvs]
  | cons x l ih =>
    cases k with
    | zero => simp
    | succ k => rw [vvs_cons, show (k + 1) * 2 = k * 2 + 2 by omega, List.drop_succ_cons]; exact ih k
theorem vvs_take (l : List (Int × Int)) (k : Nat) : (vvs l).take (k * 2) = vvs (l.take k) := by
  induction l generalizing k with
  | nil => simp [vvs]
  | cons x l ih =>
    cases k with
    | zero => simp [vvs]
    | succ k => rw [vvs_cons, show (k + 1) * 2 = k * 2 + 2 by omega, List.take_succ_cons, vvs_cons]; exact congrArg _ (congrArg _ (ih k))
theorem zs_drop (l : List Int) (k : Nat) : (zs l).drop k = zs (l.drop k) := by unfold zs; rw [List.map_drop]
theorem begV_cells (f : Fu) (x : List (Int × Int)) : vvs x ++ (vvs (zs (sl f))).drop (vvs x).length = vvs (begV f x) := by
  unfold begV
  rw [vvs_length, vvs_drop, zs_drop, vvs_append]
theorem ts_len {l : List Int} {x : List (Int × Int)} (h : fitsB l x = true) : l.length = x.length := by
  have := ((fits_true l x).1 h).1
  rw [this]; simp [ts]
theorem begV_len {f : Fu} {x : List (Int × Int)} (h : fitsB f.ar x = true) : (begV f x).length = (sl f).length := by
  have := ts_len h
  unfold begV zs
  rw [List.length_append, List.length_map, List.length_drop, sl_length]; omega
theorem resV_len {f : Fu} {x : List (Int × Int)} (h : fitsB (sl f) x = true) : (resV f x).length = f.rs.length := by
  have := ts_len h
  rw [sl_length] at this
  unfold resV
  rw [List.length_take, List.length_drop]; omega
/-- Values' list lies where another's tail does. -/
theorem rd_part {w : World} {g off a b : Nat} {x : List (Int × Int)} (h : Rd w (some ⟨g, off, none⟩) (vvs x)) (hab : a + b ≤ x.length) : Rd w (some ⟨g, off + a * 2, none⟩) (vvs ((x.drop a).take b)) := fun h0 => by
  refine ⟨_, _, rfl, fun j u hu => ?_⟩
  have hx : 0 < (vvs x).length := by
    rw [vvs_length] at h0 ⊢
    rw [List.length_take, List.length_drop] at h0; omega
  obtain ⟨g', o', e, hc⟩ := h hx
  injection e with e; injection e with e1 e2; subst e1 e2
  rw [← vvs_take, ← vvs_drop] at hu
  have hj : j < b * 2 := by
    rcases Nat.lt_or_ge j (b * 2) with h | h
    · exact h
    · rw [List.getElem?_eq_none (by rw [List.length_take]; omega)] at hu; cases hu
  rw [List.getElem?_take, if_pos hj, List.getElem?_drop] at hu
  have := hc _ _ hu
  rwa [Nat.add_assoc]

set_option maxRecDepth 100000 in
set_option maxHeartbeats 8000000 in
theorem begin_any (v : FV) (f : Fu) (X : Option Addr) (x : List (Int × Int)) (m c : Nat) (w : World) (h : FnAt w v f) (hs : SmF v) (hx : Rd w X (vvs x)) (hm : Hid (x.length = m)) (hm1 : m ≤ 100) :
    Calls Tryd.prog 7 #[v.val, .slice X m c] w fun e w' => ∃ u, e = .returned (.tuple #[u, .int .i64 (begE f x)]) ∧ Own w' 39 2 (Fresh w) u (begL f x).length (vvs (begL f x)) ∧ Keep NoB w w' := by
  have bx := Blk.new w 27 v.cells
  have k0 := (Keep.refl NoB w).alloc (.cells v.cells 27)
  have HF := Lib.hid (h.keepN k0)
  have HX := Lib.hid bx
  have HR := Lib.hid (hx.keepN k0)
  cases ho : okF f
  · have HC := Lib.hid (check_any v f _ HF.out hs 70 (chkF_no ho))
    obtain ⟨e1, e2⟩ := beg_1 x ho
    rw [e1, e2]
    obtain ⟨S, A, na, ca, B, nb, cb, L, nl, cl, D, nd, cd⟩ := v
    unfold FV.val FV.cells at *
    clear bx h hs ho e1 e2 hx
    go_enter Tryd.func7, Tryd.ntmps7
    go_wp2_with fail
    refine HC.out.mono ?_
    rintro e w1 ⟨rfl, k1⟩
    go_wp2
    go_ret2
    exact ⟨_, rfl, Own.nil _ _ _ _, keepN k0 k1⟩
  have HC := Lib.hid (check_any v f _ HF.out hs 0 (chkF_ok ho))
  have HFT := Lib.hid (fun w1 (hk : Keep NoB (w.alloc (.cells v.cells 27)) w1) (R : Bool) hR => fits_any v.A X f.ar x v.na m v.ca c w1 (HF.out.keepN hk).ra (HR.out.keepN hk) h.la hm (by have := hs.na; omega) (by omega) R hR)
  cases hf : fitsB f.ar x
  · have HFT2 := Lib.hid (fun w1 hk => HFT.out w1 hk false hf.symm)
    obtain ⟨e1, e2⟩ := beg_2 ho hf
    rw [e1, e2]
    obtain ⟨S, A, na, ca, B, nb, cb, L, nl, cl, D, nd, cd⟩ := v
    unfold FV.val FV.cells at *
    dsimp only at HFT2
    clear bx h hs ho e1 e2 hx HFT hf
    go_enter Tryd.func7, Tryd.ntmps7
    go_wp2_with fail
    refine HC.out.mono ?_
    rintro e w1 ⟨rfl, k1⟩
    obtain ⟨c0, c1, c2, c3, c4⟩ := blk5 (v := ⟨S, A, na, ca, B, nb, cb, L, nl, cl, D, nd, cd⟩) (HX.out.keep k1 id)
    go_wp2_with fail
    refine (HFT2.out _ k1).mono ?_
    rintro e w2 ⟨rfl, k2⟩
    go_wp2
    go_ret2
    exact ⟨_, rfl, Own.nil _ _ _ _, keepN (keepN k0 k1) k2⟩
  · have HFT2 := Lib.hid (fun w1 hk => HFT.out w1 hk true hf.symm)
    have HT := Lib.hid (fun w1 hk => types_any v f w1 (HF.out.keepN hk) hs)
    obtain ⟨n, hn⟩ : ∃ n, (sl f).length = n := ⟨_, rfl⟩
    have hn3 : n ≤ 300 ∧ m ≤ n := by
      have e1 := ts_len hf
      rw [hm.out, h.la] at e1
      rw [← hn, sl_length, h.la, h.lb, h.ll]; have := hs.na; have := hs.nb; have := hs.nl; omega
    have HZ := Lib.hid (fun A c w hr => zeros_any A (sl f) n c w hr hn (by omega))
    have HKn := Lib.hid (sl_known ho)
    have HB := Lib.hid (begV_cells f x)
    have HBL := Lib.hid ((begV_len hf).trans hn)
    obtain ⟨e1, e2⟩ := beg_3 ho hf
    rw [e1, e2]
    rw [hn] at HT
    have HXL : Hid ((vvs x).length = m * 2) := by show _ = _; rw [vvs_length, hm.out]
    have HV1 := Lib.hid (vvs_one x)
    obtain ⟨S, A, na, ca, B, nb, cb, L, nl, cl, D, nd, cd⟩ := v
    unfold FV.val FV.cells at *
    dsimp only at HFT2
    clear bx h hs ho e1 e2 hx HFT hf hn
    go_enter Tryd.func7, Tryd.ntmps7
    go_wp2_with fail
    refine HC.out.mono ?_
    rintro e w1 ⟨rfl, k1⟩
    obtain ⟨c0, c1, c2, c3, c4⟩ := blk5 (v := ⟨S, A, na, ca, B, nb, cb, L, nl, cl, D, nd, cd⟩) (HX.out.keep k1 id)
    go_wp2_with fail
    refine (HFT2.out _ k1).mono ?_
    rintro e w2 ⟨rfl, k2⟩
    replace k2 := keepN k1 k2
    obtain ⟨c0, c1, c2, c3, c4⟩ := blk5 (v := ⟨S, A, na, ca, B, nb, cb, L, nl, cl, D, nd, cd⟩) (HX.out.keep k2 id)
    go_wp2_with fail
    refine (HT.out _ k2).mono ?_
    rintro e w3 ⟨u, rfl, hO3, k3⟩
    obtain ⟨A3, c3', rfl, _, _, hr3, _⟩ := hO3.form
    replace k3 := keepN k2 k3
    clear hO3 c0 c1 c2 c3 c4
    go_wp2_with fail
    refine (HZ.out _ _ _ hr3).mono ?_
    rintro e w4 ⟨k4, hz⟩
    have hz2 : ∃ Z zc, e = .returned (.tuple #[.slice Z n zc, .int .i64 0]) ∧ Own w4 39 2 (Fresh w3) (.slice Z n zc) n (vvs (zs (sl f))) := by
      rcases hz with ⟨_, h⟩ | ⟨hno, _⟩
      · exact h
      · rw [HKn.out] at hno; cases hno
    obtain ⟨Z, zc, rfl, hO4⟩ := hz2
    clear hz
    have hw3 := (keepN k0 k3).size
    replace k4 := keepN k3 k4
    have hX4 := HR.out.keepN k4
    obtain ⟨w5, hcopy, hO5, hk5⟩ := run_copy_own (P := Tryd.prog) 28 28 3 39 2 (by decide) Tryd.underlying28 (by kernel_rfl) (.slice Z n zc) n _ hO4.1 X m c (vvs x) hX4 HXL.out hn3.2 HV1.out
    rw [HB.out] at hO5
    have hO4b := Lib.hid hO4.2
    have HO5 := Lib.hid hO5
    have HK5 := Lib.hid hk5
    have HK4 := Lib.hid (keepN k0 k4)
    clear hO4 hX4 hO5 hk5 k0 k1 k2 k3 k4 hr3
    go_wp2
    go_ret2
    refine ⟨_, rfl, ⟨by rw [HBL.out]; exact HO5.out, fun g e => Nat.le_trans hw3 (hO4b.out g e)⟩, HK4.out.trans HK5.out (fun b e hl => ?_)⟩
    have := hO4b.out b e
    unfold Fresh at this
    omega

set_option maxRecDepth 100000 in
set_option maxHeartbeats 8000000 in
theorem results_any (v : FV) (f : Fu) (X : Option Addr) (x : List (Int × Int)) (m c : Nat) (w : World) (h : FnAt w v f) (hs : SmF v) (hx : Rd w X (vvs x)) (hm : Hid (x.length = m)) (hm1 : m ≤ 1000) (hc : m ≤ c) :
    Calls Tryd.prog 10 #[v.val, .slice X m c] w fun e w' => ∃ u, e = .returned (.tuple #[u, .int .i64 (resE f x)]) ∧ Own w' 39 2 (Fresh w) u (resL f x).length (vvs (resL f x)) ∧ Keep NoB w w' := by
  have bx := Blk.new w 27 v.cells
  have k0 := (Keep.refl NoB w).alloc (.cells v.cells 27)
  have HF := Lib.hid (h.keepN k0)
  have HX := Lib.hid bx
  have HR := Lib.hid (hx.keepN k0)
  cases ho : okF f
  · have HC := Lib.hid (check_any v f _ HF.out hs 70 (chkF_no ho))
    obtain ⟨e1, e2⟩ := res_1 x ho
    rw [e1, e2]
    obtain ⟨S, A, na, ca, B, nb, cb, L, nl, cl, D, nd, cd⟩ := v
    unfold FV.val FV.cells at *
    clear bx h hs ho e1 e2 hx
    go_enter Tryd.func10, Tryd.ntmps10
    go_wp2_with fail
    refine HC.out.mono ?_
    rintro e w1 ⟨rfl, k1⟩
    go_wp2
    go_ret2
    exact ⟨_, rfl, Own.nil _ _ _ _, keepN k0 k1⟩
  have HC := Lib.hid (check_any v f _ HF.out hs 0 (chkF_ok ho))
  have HT := Lib.hid (fun w1 hk => types_any v f w1 (HF.out.keepN hk) hs)
  obtain ⟨n, hn⟩ : ∃ n, (sl f).length = n := ⟨_, rfl⟩
  have hn3 : n ≤ 300 := by rw [← hn, sl_length, h.la, h.lb, h.ll]; have := hs.na; have := hs.nb; have := hs.nl; omega
  have hn4 : n = v.na + v.nb + v.nl := by rw [← hn, sl_length, h.la, h.lb, h.ll]
  have HFT := Lib.hid (fun A cA w1 (hr : Rd w1 A (ivs (sl f))) (hk : Keep NoB (w.alloc (.cells v.cells 27)) w1) (R : Bool) hR => fits_any A X (sl f) x n m cA c w1 hr (HR.out.keepN hk) hn hm (by omega) (by omega) R hR)
  rw [hn] at HT
  have hna := h.la
  have hnb := h.lb
  cases hf : fitsB (sl f) x
  · have HFT2 := Lib.hid (fun A cA w1 hr hk => HFT.out A cA w1 hr hk false hf.symm)
    obtain ⟨e1, e2⟩ := res_2 ho hf
    rw [e1, e2]
    obtain ⟨S, A, na, ca, B, nb, cb, L, nl, cl, D, nd, cd⟩ := v
    unfold FV.val FV.cells at *
    clear bx h hs ho e1 e2 hx HFT hf hn hna hnb hn4
    go_enter Tryd.func10, Tryd.ntmps10
    go_wp2_with fail
    refine HC.out.mono ?_
    rintro e w1 ⟨rfl, k1⟩
    obtain ⟨c0, c1, c2, c3, c4⟩ := blk5 (v := ⟨S, A, na, ca, B, nb, cb, L, nl, cl, D, nd, cd⟩) (HX.out.keep k1 id)
    go_wp2_with fail
    refine (HT.out _ k1).mono ?_
    rintro e w2 ⟨u, rfl, hO2, k2⟩
    obtain ⟨A3, c3', rfl, _, _, hr3, _⟩ := hO2.form
    replace k2 := keepN k1 k2
    clear hO2 c0 c1 c2 c3 c4
    go_wp2_with fail
    refine (HFT2.out _ _ _ hr3 k2).mono ?_
    rintro e w3 ⟨rfl, k3⟩
    go_wp2
    go_ret2
    exact ⟨_, rfl, Own.nil _ _ _ _, keepN (keepN k0 k2) k3⟩
  · have HFT2 := Lib.hid (fun A cA w1 hr hk => HFT.out A cA w1 hr hk true hf.symm)
    obtain ⟨e1, e2⟩ := res_3 ho hf
    rw [e1, e2]
    have hmn : m = n := by rw [← hn, ← hm.out]; exact (ts_len hf).symm
    have HRL : Hid ((resV f x).length = v.nb) := (resV_len hf).trans hnb
    have hv1 := vvs_one (resV f x)
    have HCl := Lib.hid (fun w A c hr => cloneVals_any w A (vvs (resV f x)) v.nb c hr (by rw [vvs_length, HRL.out]) hv1 (by have := hs.nb; omega))
    -- where the results lie
    have HP : Hid (∀ w1, Keep NoB (w.alloc (.cells v.cells 27)) w1 → ∀ g off, X = some ⟨g, off, none⟩ → Rd w1 (some ⟨g, off + v.na * 2, none⟩) (vvs (resV f x))) := fun w1 hk g off e => by
      have hr := HR.out.keepN hk
      rw [e] at hr
      unfold resV
      rw [hna, hnb]
      exact rd_part hr (by rw [hm.out]; omega)
    have HE : Hid (v.nb = 0 → resV f x = []) := fun e => List.length_eq_zero_iff.1 (by rw [HRL.out, e])
    have hb1 := hs.na
    have hb2 := hs.nb
    by_cases h0 : v.na + v.nb = 0
    · obtain ⟨S, A, na, ca, B, nb, cb, L, nl, cl, D, nd, cd⟩ := v
      dsimp only at h0
      obtain rfl : na = 0 := by omega
      obtain rfl : nb = 0 := by omega
      have hre := HE.out rfl
      unfold FV.val FV.cells at *
      rw [hre] at HCl HRL ⊢
      dsimp only at HCl HRL
      clear bx h hs ho e1 e2 hx HFT hf hn hna hnb HP HE hv1 hn4 hmn h0 hre hb1 hb2
      by_cases hc0 : c = 0
      · subst hc0
        rcases X with _ | ad
        · skip
          go_enter Tryd.func10, Tryd.ntmps10
          go_wp2_with fail
          refine HC.out.mono ?_
          rintro e w1 ⟨rfl, k1⟩
          obtain ⟨c0, c1, c2, c3, c4⟩ := blk5 (v := ⟨S, A, 0, ca, B, 0, cb, L, nl, cl, D, nd, cd⟩) (HX.out.keep k1 id)
          go_wp2_with fail
          refine (HT.out _ k1).mono ?_
          rintro e w2 ⟨u, rfl, hO2, k2⟩
          obtain ⟨A3, c3', rfl, _, _, hr3, _⟩ := hO2.form
          replace k2 := keepN k1 k2
          clear hO2 c0 c1 c2 c3 c4
          go_wp2_with fail
          refine (HFT2.out _ _ _ hr3 k2).mono ?_
          rintro e w3 ⟨rfl, k3⟩
          replace k3 := keepN k2 k3
          obtain ⟨c0, c1, c2, c3, c4⟩ := blk5 (v := ⟨S, A, 0, ca, B, 0, cb, L, nl, cl, D, nd, cd⟩) (HX.out.keep k3 id)
          clear hr3
          go_wp2_with fail
          refine (HCl.out _ _ _ (Rd.none_ _ _)).mono ?_
          rintro e w4 ⟨u4, rfl, hO4, k4⟩
          have HO4 := Lib.hid hO4
          have HK4 := Lib.hid (keepN (keepN k0 k3) k4)
          have hz := (keepN k0 k3).size
          clear hO4 k4 c0 c1 c2 c3 c4
          go_wp2
          go_ret2
          exact ⟨_, rfl, (by first | exact HO4.out | (rw [HRL.out]; exact HO4.out) : Own w4 _ _ (Fresh w3) u4 _ _).mono (fun k hf _ => Nat.le_trans hz hf), HK4.out⟩
        · skip
          go_enter Tryd.func10, Tryd.ntmps10
          go_wp2_with fail
          refine HC.out.mono ?_
          rintro e w1 ⟨rfl, k1⟩
          obtain ⟨c0, c1, c2, c3, c4⟩ := blk5 (v := ⟨S, A, 0, ca, B, 0, cb, L, nl, cl, D, nd, cd⟩) (HX.out.keep k1 id)
          go_wp2_with fail
          refine (HT.out _ k1).mono ?_
          rintro e w2 ⟨u, rfl, hO2, k2⟩
          obtain ⟨A3, c3', rfl, _, _, hr3, _⟩ := hO2.form
          replace k2 := keepN k1 k2
          clear hO2 c0 c1 c2 c3 c4
          go_wp2_with fail
          refine (HFT2.out _ _ _ hr3 k2).mono ?_
          rintro e w3 ⟨rfl, k3⟩
          replace k3 := keepN k2 k3
          obtain ⟨c0, c1, c2, c3, c4⟩ := blk5 (v := ⟨S, A, 0, ca, B, 0, cb, L, nl, cl, D, nd, cd⟩) (HX.out.keep k3 id)
          clear hr3
          go_wp2_with fail
          refine (HCl.out _ _ _ (Rd.none_ _ _)).mono ?_
          rintro e w4 ⟨u4, rfl, hO4, k4⟩
          have HO4 := Lib.hid hO4
          have HK4 := Lib.hid (keepN (keepN k0 k3) k4)
          have hz := (keepN k0 k3).size
          clear hO4 k4 c0 c1 c2 c3 c4
          go_wp2
          go_ret2
          exact ⟨_, rfl, (by first | exact HO4.out | (rw [HRL.out]; exact HO4.out) : Own w4 _ _ (Fresh w3) u4 _ _).mono (fun k hf _ => Nat.le_trans hz hf), HK4.out⟩
      · rcases X with _ | ad
        · skip
          go_enter Tryd.func10, Tryd.ntmps10
          go_wp2_with fail
          refine HC.out.mono ?_
          rintro e w1 ⟨rfl, k1⟩
          obtain ⟨c0, c1, c2, c3, c4⟩ := blk5 (v := ⟨S, A, 0, ca, B, 0, cb, L, nl, cl, D, nd, cd⟩) (HX.out.keep k1 id)
          go_wp2_with fail
          refine (HT.out _ k1).mono ?_
          rintro e w2 ⟨u, rfl, hO2, k2⟩
          obtain ⟨A3, c3', rfl, _, _, hr3, _⟩ := hO2.form
          replace k2 := keepN k1 k2
          clear hO2 c0 c1 c2 c3 c4
          go_wp2_with fail
          refine (HFT2.out _ _ _ hr3 k2).mono ?_
          rintro e w3 ⟨rfl, k3⟩
          replace k3 := keepN k2 k3
          obtain ⟨c0, c1, c2, c3, c4⟩ := blk5 (v := ⟨S, A, 0, ca, B, 0, cb, L, nl, cl, D, nd, cd⟩) (HX.out.keep k3 id)
          clear hr3
          go_wp2_with fail
          refine (HCl.out _ _ _ (Rd.none_ _ _)).mono ?_
          rintro e w4 ⟨u4, rfl, hO4, k4⟩
          have HO4 := Lib.hid hO4
          have HK4 := Lib.hid (keepN (keepN k0 k3) k4)
          have hz := (keepN k0 k3).size
          clear hO4 k4 c0 c1 c2 c3 c4
          go_wp2
          go_ret2
          exact ⟨_, rfl, (by first | exact HO4.out | (rw [HRL.out]; exact HO4.out) : Own w4 _ _ (Fresh w3) u4 _ _).mono (fun k hf _ => Nat.le_trans hz hf), HK4.out⟩
        · skip
          go_enter Tryd.func10, Tryd.ntmps10
          go_wp2_with fail
          refine HC.out.mono ?_
          rintro e w1 ⟨rfl, k1⟩
          obtain ⟨c0, c1, c2, c3, c4⟩ := blk5 (v := ⟨S, A, 0, ca, B, 0, cb, L, nl, cl, D, nd, cd⟩) (HX.out.keep k1 id)
          go_wp2_with fail
          refine (HT.out _ k1).mono ?_
          rintro e w2 ⟨u, rfl, hO2, k2⟩
          obtain ⟨A3, c3', rfl, _, _, hr3, _⟩ := hO2.form
          replace k2 := keepN k1 k2
          clear hO2 c0 c1 c2 c3 c4
          go_wp2_with fail
          refine (HFT2.out _ _ _ hr3 k2).mono ?_
          rintro e w3 ⟨rfl, k3⟩
          replace k3 := keepN k2 k3
          obtain ⟨c0, c1, c2, c3, c4⟩ := blk5 (v := ⟨S, A, 0, ca, B, 0, cb, L, nl, cl, D, nd, cd⟩) (HX.out.keep k3 id)
          clear hr3
          go_wp2_with fail
          refine (HCl.out _ _ _ (Rd.none_ _ _)).mono ?_
          rintro e w4 ⟨u4, rfl, hO4, k4⟩
          have HO4 := Lib.hid hO4
          have HK4 := Lib.hid (keepN (keepN k0 k3) k4)
          have hz := (keepN k0 k3).size
          clear hO4 k4 c0 c1 c2 c3 c4
          go_wp2
          go_ret2
          exact ⟨_, rfl, (by first | exact HO4.out | (rw [HRL.out]; exact HO4.out) : Own w4 _ _ (Fresh w3) u4 _ _).mono (fun k hf _ => Nat.le_trans hz hf), HK4.out⟩
    · have hxp : 0 < (vvs x).length := by rw [vvs_length, hm.out]; omega
      obtain ⟨g, off, rfl, _⟩ := HR.out hxp
      have HP2 := Lib.hid (fun w1 hk => HP.out w1 hk g off rfl)
      obtain ⟨S, A, na, ca, B, nb, cb, L, nl, cl, D, nd, cd⟩ := v
      unfold FV.val FV.cells at *
      dsimp only at hn4 HCl HRL HP2 hb1 hb2 HE
      have q1 : na ≤ c := by omega
      have q2 : na + nb ≤ c := by omega
      by_cases hcn : na = c
      · obtain rfl : nb = 0 := by omega
        have hre := HE.out rfl
        rw [hre] at HCl HRL ⊢
        subst hcn
        clear bx h hs ho e1 e2 hx HFT hf hn hna hnb HP HP2 HE hxp hv1 hn4 hmn h0 hre
        go_enter Tryd.func10, Tryd.ntmps10
        go_wp2_with fail
        refine HC.out.mono ?_
        rintro e w1 ⟨rfl, k1⟩
        obtain ⟨c0, c1, c2, c3, c4⟩ := blk5 (v := ⟨S, A, na, ca, B, 0, cb, L, nl, cl, D, nd, cd⟩) (HX.out.keep k1 id)
        go_wp2_with fail
        refine (HT.out _ k1).mono ?_
        rintro e w2 ⟨u, rfl, hO2, k2⟩
        obtain ⟨A3, c3', rfl, _, _, hr3, _⟩ := hO2.form
        replace k2 := keepN k1 k2
        clear hO2 c0 c1 c2 c3 c4
        go_wp2_with fail
        refine (HFT2.out _ _ _ hr3 k2).mono ?_
        rintro e w3 ⟨rfl, k3⟩
        replace k3 := keepN k2 k3
        obtain ⟨c0, c1, c2, c3, c4⟩ := blk5 (v := ⟨S, A, na, ca, B, 0, cb, L, nl, cl, D, nd, cd⟩) (HX.out.keep k3 id)
        clear hr3
        go_wp2_with fail
        refine (HCl.out _ _ _ (Rd.none_ _ _)).mono ?_
        rintro e w4 ⟨u4, rfl, hO4, k4⟩
        have HO4 := Lib.hid hO4
        have HK4 := Lib.hid (keepN (keepN k0 k3) k4)
        have hz := (keepN k0 k3).size
        clear hO4 k4 c0 c1 c2 c3 c4
        go_wp2
        go_ret2
        exact ⟨_, rfl, (by first | exact HO4.out | (rw [HRL.out]; exact HO4.out) : Own w4 _ _ (Fresh w3) u4 _ _).mono (fun k hf _ => Nat.le_trans hz hf), HK4.out⟩
      · have q3 : na < c := by omega
        clear bx h hs ho e1 e2 hx HFT hf hn hna hnb HP HE hxp hv1 hn4 hmn h0
        go_enter Tryd.func10, Tryd.ntmps10
        go_wp2_with fail
        refine HC.out.mono ?_
        rintro e w1 ⟨rfl, k1⟩
        obtain ⟨c0, c1, c2, c3, c4⟩ := blk5 (v := ⟨S, A, na, ca, B, nb, cb, L, nl, cl, D, nd, cd⟩) (HX.out.keep k1 id)
        go_wp2_with fail
        refine (HT.out _ k1).mono ?_
        rintro e w2 ⟨u, rfl, hO2, k2⟩
        obtain ⟨A3, c3', rfl, _, _, hr3, _⟩ := hO2.form
        replace k2 := keepN k1 k2
        clear hO2 c0 c1 c2 c3 c4
        go_wp2_with fail
        refine (HFT2.out _ _ _ hr3 k2).mono ?_
        rintro e w3 ⟨rfl, k3⟩
        replace k3 := keepN k2 k3
        obtain ⟨c0, c1, c2, c3, c4⟩ := blk5 (v := ⟨S, A, na, ca, B, nb, cb, L, nl, cl, D, nd, cd⟩) (HX.out.keep k3 id)
        clear hr3
        go_wp2_with fail
        refine (HCl.out _ _ _ (HP2.out _ k3)).mono ?_
        rintro e w4 ⟨u4, rfl, hO4, k4⟩
        have HO4 := Lib.hid hO4
        have HK4 := Lib.hid (keepN (keepN k0 k3) k4)
        have hz := (keepN k0 k3).size
        clear hO4 k4 c0 c1 c2 c3 c4
        go_wp2
        go_ret2
        exact ⟨_, rfl, (by first | exact HO4.out | (rw [HRL.out]; exact HO4.out) : Own w4 _ _ (Fresh w3) u4 _ _).mono (fun k hf _ => Nat.le_trans hz hf), HK4.out⟩

end Go.Proofs.YtbnekeomdhljhaaDoor.F

namespace Go.Proofs.YtbnekeomdhljhaaDoor.F
open Go.RowKit W

/-- A list of numbers that is owned, as a slice that reads. -/
theorem own_ivs {w : World} {O : Nat → Prop} {u : Value} {l l' : List Int} {n : Nat} (h : Own w 3 1 O u l.length (ivs l)) (he : l = l') (hn : l'.length = n) : ∃ A c, u = .slice A n c ∧ Rd w A (ivs l') := by
  subst he hn
  obtain ⟨A, c, e, _, _, hr, _⟩ := h.form
  exact ⟨A, c, e, hr⟩
theorem own_vvs {w : World} {O : Nat → Prop} {u : Value} {l l' : List (Int × Int)} {n : Nat} (h : Own w 39 2 O u l.length (vvs l)) (he : l = l') (hn : l'.length = n) : ∃ A c, u = .slice A n c ∧ n ≤ c ∧ Rd w A (vvs l') := by
  subst he hn
  obtain ⟨A, c, e, hc, _, hr, _⟩ := h.form
  exact ⟨A, c, e, hc, hr⟩
theorem slots_lit (f : Fu) (l : List Int) (n : Nat) (v : FV) (w : World) (h : FnV f v w) (he : slF f = l) (hn : l.length = n) : Calls Tryd.prog 12 #[v.val] w fun e w' => ∃ A c, e = .returned (.slice A n c) ∧ Rd w' A (ivs l) ∧ Keep NoB w w' := by
  refine (slotsF_any v f w h.1 h.2).mono ?_
  rintro e w' ⟨u, rfl, hO, hk⟩
  obtain ⟨A, c, rfl, hr⟩ := own_ivs hO he hn
  exact ⟨A, c, rfl, hr, hk⟩
theorem pointers_lit (f : Fu) (l : List Int) (n : Nat) (v : FV) (w : World) (h : FnV f v w) (he : ptZ f = l) (hn : l.length = n) : Calls Tryd.prog 14 #[v.val] w fun e w' => ∃ A c, e = .returned (.slice A n c) ∧ Rd w' A (ivs l) ∧ Keep NoB w w' := by
  refine (pointers_any v f w h.1 h.2).mono ?_
  rintro e w' ⟨u, rfl, hO, hk⟩
  obtain ⟨A, c, rfl, hr⟩ := own_ivs hO he hn
  exact ⟨A, c, rfl, hr, hk⟩
theorem begin_lit (f : Fu) (x l : List (Int × Int)) (E : Int) (n m c : Nat) (X : Option Addr) (v : FV) (w : World) (h : FnV f v w) (hx : Rd w X (vvs x)) (hm : x.length = m) (hm1 : m ≤ 100) (he : begL f x = l ∧ begE f x = E) (hn : l.length = n) :
    Calls Tryd.prog 7 #[v.val, .slice X m c] w fun e w' => ∃ A d, e = .returned (.tuple #[.slice A n d, .int .i64 E]) ∧ n ≤ d ∧ Rd w' A (vvs l) ∧ Keep NoB w w' := by
  obtain ⟨he, rfl⟩ := he
  refine (begin_any v f X x m c w h.1 h.2 hx hm hm1).mono ?_
  rintro e w' ⟨u, rfl, hO, hk⟩
  obtain ⟨A, d, rfl, hc, hr⟩ := own_vvs hO he hn
  exact ⟨A, d, rfl, hc, hr, hk⟩

set_option maxRecDepth 100000 in
set_option maxHeartbeats 8000000 in
theorem alive_any (w : World) : Calls Tryd.prog 5 #[] w fun e w' => e = .returned (.bool true) ∧ Keep NoB w w' := by
  have HS := Lib.hid (fun w => some_any w)
  have HI4 := Lib.hid (fun A1 A2 c1 c2 w h1 h2 => ints_any A1 A2 [1, 4, 2, 3] [1, 4, 2, 3] 4 4 c1 c2 w h1 h2 rfl rfl (by decide) (by decide) true (show _ = _ by simp))
  have HI1 := Lib.hid (fun A1 A2 c1 c2 w h1 h2 => ints_any A1 A2 [1] [1] 1 1 c1 c2 w h1 h2 rfl rfl (by decide) (by decide) true (show _ = _ by simp))
  have HV4 := Lib.hid (fun A1 A2 c1 c2 w h1 h2 => W.same_any A1 A2 [(1, 5), (4, 9), (2, 0), (3, 0)] [(1, 5), (4, 9), (2, 0), (3, 0)] 4 4 c1 c2 w h1 h2 rfl rfl (by decide) (by decide) true (show _ = _ by simp))
  go_enter Tryd.func5, Tryd.ntmps5
  go_wp2_with fail
  refine (HS.out _).mono ?_
  rintro e w1 ⟨v1, rfl, h1, gK⟩
  go_wp2_with fail
  refine (slot_any v1 fSome 2 w1 h1.1 h1.2 2 2 0 (by show _ ∧ _; exact ⟨by kernel_rfl, by kernel_rfl, by kernel_rfl⟩)).mono ?_
  rintro e w2 ⟨rfl, k1⟩
  replace gK := keepN gK k1
  clear k1 h1
  go_wp2_with fail
  refine (HS.out _).mono ?_
  rintro e w3 ⟨v2, rfl, h2, k1⟩
  replace gK := keepN gK k1
  clear k1
  go_wp2_with fail
  refine (slot_any v2 fSome 4 w3 h2.1 h2.2 0 0 72 (by show _ ∧ _; exact ⟨by kernel_rfl, by kernel_rfl, by kernel_rfl⟩)).mono ?_
  rintro e w4 ⟨rfl, k1⟩
  replace gK := keepN gK k1
  clear k1 h2
  go_wp2_with fail
  refine (HS.out _).mono ?_
  rintro e w5 ⟨v3, rfl, h3, k1⟩
  replace gK := keepN gK k1
  clear k1
  have kA := (Keep.refl NoB w5).alloc (.cells #[.int .i64 1, .int .i64 5, .int .i64 4, .int .i64 9] 39)
  go_wp2_with fail
  refine (begin_lit fSome [(1, 5), (4, 9)] [(1, 5), (4, 9), (2, 0), (3, 0)] 0 4 2 _ _ v3 _ (h3.keepN kA) (rd_made rfl rfl) rfl (by decide) ⟨by kernel_rfl, by kernel_rfl⟩ rfl).mono ?_
  rintro e w6 ⟨A6, c6, rfl, _, r6, k1⟩
  replace gK := keepN gK (keepN kA k1)
  clear k1 kA h3
  go_wp2_with fail
  refine (HS.out _).mono ?_
  rintro e w7 ⟨v4, rfl, h4, k1⟩
  replace gK := keepN gK k1
  replace r6 := r6.keepN k1
  clear k1
  have kA := (Keep.refl NoB w7).alloc (.cells #[.int .i64 1, .int .i64 5] 39)
  go_wp2_with fail
  refine (begin_lit fSome [(1, 5)] [] 73 0 1 _ _ v4 _ (h4.keepN kA) (rd_made rfl rfl) rfl (by decide) ⟨by kernel_rfl, by kernel_rfl⟩ rfl).mono ?_
  rintro e w8 ⟨A8, c8, rfl, _, _, k1⟩
  replace gK := keepN gK (keepN kA k1)
  replace r6 := r6.keepN (keepN kA k1)
  clear k1 kA h4
  go_wp2_with fail
  refine (HS.out _).mono ?_
  rintro e w9 ⟨v5, rfl, h5, k1⟩
  replace gK := keepN gK k1
  replace r6 := r6.keepN k1
  clear k1
  go_wp2_with fail
  refine (slots_lit fSome [1, 4, 2, 3] 4 v5 w9 h5 (by kernel_rfl) rfl).mono ?_
  rintro e w10 ⟨A10, c10, rfl, r10, k1⟩
  replace gK := keepN gK k1
  replace r6 := r6.keepN k1
  clear k1 h5
  have kA := (Keep.refl NoB w10).alloc (.cells #[.int .i64 1, .int .i64 4, .int .i64 2, .int .i64 3] 3)
  go_wp2_with fail
  refine (HI4.out _ _ _ _ _ (r10.keepN kA) (rd_made rfl rfl)).mono ?_
  rintro e w11 ⟨rfl, k1⟩
  replace gK := keepN gK (keepN kA k1)
  replace r6 := r6.keepN (keepN kA k1)
  clear k1 kA r10
  go_wp2_with fail
  refine (HS.out _).mono ?_
  rintro e w12 ⟨v6, rfl, h6, k1⟩
  replace gK := keepN gK k1
  replace r6 := r6.keepN k1
  clear k1
  go_wp2_with fail
  refine (pointers_lit fSome [1] 1 v6 w12 h6 (by kernel_rfl) rfl).mono ?_
  rintro e w13 ⟨A13, c13, rfl, r13, k1⟩
  replace gK := keepN gK k1
  replace r6 := r6.keepN k1
  clear k1 h6
  have kA := (Keep.refl NoB w13).alloc (.cells #[.int .i64 1] 3)
  go_wp2_with fail
  refine (HI1.out _ _ _ _ _ (r13.keepN kA) (rd_made rfl rfl)).mono ?_
  rintro e w14 ⟨rfl, k1⟩
  replace gK := keepN gK (keepN kA k1)
  replace r6 := r6.keepN (keepN kA k1)
  clear k1 kA r13
  have kA := (Keep.refl NoB w14).alloc (.cells #[.int .i64 1, .int .i64 5, .int .i64 4, .int .i64 9, .int .i64 2, .int .i64 0, .int .i64 3, .int .i64 0] 39)
  go_wp2_with fail
  refine (HV4.out _ _ _ _ _ (r6.keepN kA) (rd_made rfl rfl)).mono ?_
  rintro e w15 ⟨rfl, k1⟩
  replace gK := keepN gK (keepN kA k1)
  clear k1 kA r6
  go_wp2
  go_ret
  exact ⟨rfl, gK⟩

end Go.Proofs.YtbnekeomdhljhaaDoor.F

namespace Go.Proofs.YtbnekeomdhljhaaDoor
open Go.RowKit Go.Maps

/-- Block b is a map of at most n keys; each number has what f says. -/
def IMap (P : Program) (k e : TypeId) (b n : Nat) (f : Int → Nat) (w : World) : Prop :=
  ∃ D : DataW Unit, w.ownsMap P k (plainElem P e) b n D ∧ IsMap D ∧ ∀ h : Int, D.atKey (.int .i64 h) (.lit (.int .i64 0)) = .lit (.int .i64 (f h : Int))
section
variable {P : Program} {k e t : TypeId} {b n : Nat} {f : Int → Nat} {w w' : World}
theorem IMap.new (P : Program) (k e : TypeId) (w : World) : IMap P k e w.heap.size 0 (fun _ => 0) (w.alloc (.map #[] 0)) :=
  ⟨.map [], World.ownsMap_made w P k _, isMap_empty, fun _ => rfl⟩
theorem IMap.lt (h : IMap P k e b n f w) : b < w.heap.size := by obtain ⟨_, h, _⟩ := h; exact h.lt
theorem IMap.obj (h : IMap P k e b n f w) : ∃ es c, w.heap[b]? = some (.map es c) := by
  obtain ⟨_, ⟨es, c, hb, _⟩, _⟩ := h
  exact ⟨es, c, hb⟩
theorem IMap.grown {row : Option Nat} (h : IMap P k e b n f w) (hg : w.grownBy w' row) (hne : some b ≠ row) : IMap P k e b n f w' := by
  obtain ⟨D, h1, h2, h3⟩ := h
  exact ⟨D, h1.kept hg hne, h2, h3⟩
theorem IMap.keep {O : Nat → Prop} (h : IMap P k e b n f w) (hk : Keep O w w') (hb : ¬ O b) : IMap P k e b n f w' := by
  obtain ⟨D, ⟨es, c, h0, hr⟩, h2, h3⟩ := h
  exact ⟨D, ⟨es, c, (hk.block b (Array.getElem?_eq_some_iff.1 h0).1 hb).trans h0, hr⟩, h2, h3⟩
theorem IMap.mono {m : Nat} (h : IMap P k e b n f w) (hm : n ≤ m) : IMap P k e b m f w := by
  obtain ⟨D, h1, h2, h3⟩ := h
  exact ⟨D, h1.mono hm, h2, h3⟩
theorem IMap.congr {g : Int → Nat} (h : IMap P k e b n f w) (hg : ∀ x, g x = f x) : IMap P k e b n g w := by
  obtain ⟨D, h1, h2, h3⟩ := h
  exact ⟨D, h1, h2, fun x => by rw [hg]; exact h3 x⟩
/-- What a store of one makes of f. -/
def setF (f : Int → Nat) (x : Int) (v : Nat) : Int → Nat := fun y => if y = x then v else f y
theorem lit_inj {a b : Int} (h : (DataW.lit (.int .i64 a) : DataW Unit) = .lit (.int .i64 b)) : a = b := by injection h with h; injection h with _ h
theorem isMap_put {D : DataW Unit} {f : Int → Nat} {x : Int} {v : Nat} (hD : IsMap D) (h3 : ∀ h : Int, D.atKey (.int .i64 h) (.lit (.int .i64 0)) = .lit (.int .i64 (f h : Int))) :
    ∀ h : Int, (D.put (.int .i64 x) (.lit (.int .i64 (v : Int)))).atKey (.int .i64 h) (.lit (.int .i64 0)) = .lit (.int .i64 (setF f x v h : Int)) := by
  intro h
  unfold setF
  by_cases he : h = x
  · subst he; rw [if_pos rfl]; exact atKey_put_same hD (by unfold WideAt.IsKeyLit; trivial) _ _
  · rw [if_neg he, atKey_put_other (by intro e; injection e with _ e; exact he e)]; exact h3 h
/-- A store. -/
theorem IMap.update (h : IMap P k e b n f w) (ht : P.underlying t = some (.map k e)) (hk : P.underlying k = some (.int .i64)) (he : P.underlying e = some (.int .i64)) (hn : n < maxLen) (x : Int) (v : Nat) (hx : (Lit.int .i64 x).wf = true) (hv : (Lit.int .i64 (v : Int)).wf = true) :
    ∃ w', (Instr.mapUpdate t (.map (some b)) (.int .i64 x) (.int .i64 (v : Int))).run P w = .ok () w' ∧ IMap P k e b (n + 1) (setF f x v) w' ∧ w.grownBy w' (some b) := by
  obtain ⟨D, h1, h2, h3⟩ := h
  obtain ⟨w', hrun, r1, r2⟩ := h1.update (int_keyed hk) ht hn (keyOf_int_mk hk hx) (plainElem_int he hv)
  exact ⟨w', hrun, ⟨_, r1, h2.put _ _, isMap_put h2 h3⟩, r2⟩
/-- A look. -/
theorem IMap.look (h : IMap P k e b n f w) (ht : P.underlying t = some (.map k e)) (hk : P.underlying k = some (.int .i64)) (he : P.underlying e = some (.int .i64)) (hz : (zeroValue e).run P w = .ok (.int .i64 0) w) (x : Int) (hx : (Lit.int .i64 x).wf = true) :
    (Instr.lookup t (.map (some b)) (.int .i64 x) false).run P w = .ok (.int .i64 (f x : Int)) w := by
  obtain ⟨D, h1, h2, h3⟩ := h
  obtain ⟨c, hrun, hat, _⟩ := h1.lookup_int (int_keyed hk) ht he hz (keyOf_int_mk hk hx)
  rw [h3 x] at hat
  rw [lit_inj hat]
  exact hrun
end
end Go.Proofs.YtbnekeomdhljhaaDoor

namespace Go.Proofs.YtbnekeomdhljhaaDoor.F
open Go.RowKit W

/-- How many slots of a kind are among the first ones; what the last one was; how many pointers there were. -/
def cntF (f : Fu) (k : Nat) (h : Int) : Nat := if h = 1 then min k f.ar.length else if h = 2 then min (k - f.ar.length) f.rs.length else if h = 3 then k - f.ar.length - f.rs.length else 0
def lastF (f : Fu) (k : Nat) : Int := if k = 0 then 0 else wh f (k - 1)
def atF (f : Fu) (k : Nat) : Nat := ((List.range k).filter fun i => ty f i == 4).length
theorem wh_in (f : Fu) (k : Nat) : 1 ≤ wh f k ∧ wh f k ≤ 3 := by
  unfold wh
  split
  · omega
  · split <;> omega
theorem last_le (f : Fu) (k : Nat) : 0 ≤ lastF f k ∧ lastF f k ≤ wh f k := by
  unfold lastF
  by_cases h : k = 0
  · rw [if_pos h]; have := wh_in f k; omega
  · rw [if_neg h]
    have := wh_in f (k - 1)
    refine ⟨by omega, ?_⟩
    unfold wh
    split <;> split <;> (try split) <;> (try split) <;> omega
theorem last_next (f : Fu) (k : Nat) : lastF f (k + 1) = wh f k := by unfold lastF; rw [if_neg (by omega), Nat.add_sub_cancel]
theorem cnt_zero (f : Fu) (h : Int) : cntF f 0 h = 0 := by
  unfold cntF
  split
  · simp
  · split
    · simp
    · split <;> simp
theorem cnt_next (f : Fu) (k : Nat) (x : Int) : cntF f (k + 1) x = setF (cntF f k) (wh f k) (cntF f k (wh f k) + 1) x := by
  unfold setF
  by_cases h1 : k < f.ar.length
  · rw [show wh f k = 1 from if_pos h1]
    by_cases hx : x = 1
    · subst hx; rw [if_pos rfl]; simp only [cntF, if_true]; omega
    · rw [if_neg hx]; unfold cntF; rw [if_neg hx, if_neg hx]
      split
      · omega
      · split <;> omega
  · by_cases h2 : k < f.ar.length + f.rs.length
    · rw [show wh f k = 2 by unfold wh; rw [if_neg h1, if_pos h2]]
      by_cases hx : x = 2
      · subst hx; rw [if_pos rfl]; simp only [cntF, show ¬ ((2 : Int) = 1) by decide, if_false, if_true]; omega
      · rw [if_neg hx]; unfold cntF; rw [if_neg hx, if_neg hx]
        split
        · omega
        · split <;> omega
    · rw [show wh f k = 3 by unfold wh; rw [if_neg h1, if_neg h2]]
      by_cases hx : x = 3
      · subst hx; rw [if_pos rfl]; simp only [cntF, show ¬ ((3 : Int) = 1) by decide, show ¬ ((3 : Int) = 2) by decide, if_false, if_true]; omega
      · rw [if_neg hx]; unfold cntF; rw [if_neg hx, if_neg hx]
        split
        · omega
        · split <;> omega
theorem cnt_le (f : Fu) (k : Nat) (h : Int) : cntF f k h ≤ k := by
  unfold cntF
  split
  · omega
  · split
    · omega
    · split <;> omega
theorem cnt_all (f : Fu) : cntF f (sl f).length 1 = f.ar.length ∧ cntF f (sl f).length 2 = f.rs.length ∧ cntF f (sl f).length 3 = f.lc.length := by
  rw [sl_length]
  refine ⟨?_, ?_, ?_⟩
  · simp only [cntF, if_true]; omega
  · simp only [cntF, show ¬ ((2 : Int) = 1) by decide, if_false, if_true]; omega
  · simp only [cntF, show ¬ ((3 : Int) = 1) by decide, show ¬ ((3 : Int) = 2) by decide, if_false, if_true]; omega
theorem at_yes {f : Fu} {k : Nat} (h : ty f k = 4) : atF f (k + 1) = atF f k + 1 := by unfold atF; rw [List.range_succ, List.filter_append]; simp [h]
theorem at_no {f : Fu} {k : Nat} (h : ty f k ≠ 4) : atF f (k + 1) = atF f k := by unfold atF; rw [List.range_succ, List.filter_append]; simp [h]
theorem at_le (f : Fu) (k : Nat) : atF f k ≤ k := by unfold atF; exact Nat.le_trans (List.length_filter_le _ _) (by simp)
theorem range_split {n k : Nat} (h : k < n) : List.range n = List.range k ++ k :: (List.range' (k + 1) (n - (k + 1))) := by
  apply List.ext_getElem?
  intro i
  rcases Nat.lt_trichotomy i k with h1 | h1 | h1
  · rw [List.getElem?_range (by omega), List.getElem?_append_left (by simpa using h1), List.getElem?_range h1]
  · subst h1
    rw [List.getElem?_range h, List.getElem?_append_right (by simp)]; simp
  · rw [List.getElem?_append_right (by simp; omega), List.length_range]
    obtain ⟨j, rfl⟩ : ∃ j, i = k + 1 + j := ⟨i - (k + 1), by omega⟩
    rw [show k + 1 + j - k = j + 1 by omega, List.getElem?_cons_succ]
    by_cases hi : k + 1 + j < n
    · rw [List.getElem?_range hi, List.getElem?_range' (by omega)]; simp
    · rw [List.getElem?_eq_none (by simp; omega), List.getElem?_eq_none (by simp; omega)]
theorem ptr_at {f : Fu} {k : Nat} (hk : k < (sl f).length) (h : ty f k = 4) : (ptr f)[atF f k]? = some k := by
  unfold ptr atF
  rw [range_split hk, List.filter_append, List.getElem?_append_right (Nat.le_refl _), Nat.sub_self, List.filter_cons]
  simp [h]
theorem ptr_len (f : Fu) : (ptr f).length = atF f (sl f).length := rfl
theorem wf_in {h : Int} (h0 : 0 ≤ h) (h1 : h ≤ 5000) : (Lit.int .i64 h).wf = true := WalkArith.wf_i64 (by omega)
theorem int_zero (w : World) : (zeroValue 3).run Tryd.prog w = .ok (.int .i64 0) w := Tryd.zeroValue3 w

theorem rd_map {W W' : World} {A : Option Addr} {xs : List Value} {b : Nat} (h : Rd W A xs) (hg : W.grownBy W' (some b)) (hb : ∃ es c, W.heap[b]? = some (.map es c)) : Rd W' A xs := fun h0 => by
  obtain ⟨es, c, hb⟩ := hb
  obtain ⟨g, off, e, hc⟩ := h h0
  refine ⟨g, off, e, fun j u hu => ?_⟩
  have h1 := hc j u hu
  have hne : g ≠ b := by
    rintro rfl
    unfold World.cell? at h1
    simp [hb] at h1
  have hlt := World.block_lt_of_cell? W _ h1
  exact (World.cell?_of_block (hg.block g hlt (by simpa using hne))).trans h1
theorem blk_map {W W' : World} {g b : Nat} {t : TypeId} {cs : Array Value} (h : Blk W g t cs) (hg : W.grownBy W' (some b)) (hb : ∃ es c, W.heap[b]? = some (.map es c)) : Blk W' g t cs := by
  obtain ⟨es, c, hb⟩ := hb
  refine h.grown hg fun e => ?_
  injection e with e
  unfold Blk at h
  rw [e, hb] at h; cases h

set_option maxRecDepth 100000 in
set_option maxHeartbeats 16000000 in
theorem parts_walk (v : FV) (f : Fu) (w : World) (h : FnAt w v f) : Calls Tryd.prog 4 #[v.val] w fun e w' => e = .returned (.bool true) ∧ Keep NoB w w' := by
  have bx := Blk.new w 27 v.cells
  have k0 := (Keep.refl NoB w).alloc (.cells v.cells 27)
  have HF := Lib.hid (h.keepN k0)
  have HX := Lib.hid bx
  by_cases hs : SmF v
  · have HG := Lib.hid (fun w => great_no v w hs)
    cases ho : okF f
    · have HSl := Lib.hid (fun w1 hk => slots_lit f [] 0 v w1 ⟨HF.out.keepN hk, hs⟩ (slF_no ho) rfl)
      have HPt := Lib.hid (fun w1 hk => pointers_lit f [] 0 v w1 ⟨HF.out.keepN hk, hs⟩ (by unfold ptZ; rw [ptrF_no ho]; rfl) rfl)
      have HCk := Lib.hid (fun w1 hk => check_any v f w1 (HF.out.keepN hk) hs 70 (chkF_no ho))
      obtain ⟨s0, A, na, ca, B, nb, cb, L, nl, cl, D, nd, cd⟩ := v
      unfold FV.val FV.cells at *
      clear bx h hs ho
      go_enter Tryd.func4, Tryd.ntmps4
      go_wp2_with fail
      refine (alive_any _).mono ?_
      rintro e w1 ⟨rfl, k1⟩
      obtain ⟨c0, c1, c2, c3, c4⟩ := blk5 (v := ⟨s0, A, na, ca, B, nb, cb, L, nl, cl, D, nd, cd⟩) (HX.out.keep k1 id)
      dsimp only at c0 c1 c2 c3 c4
      go_wp2_with fail
      refine (HG.out _).mono ?_
      rintro e w2 ⟨rfl, k2⟩
      replace k1 := keepN k1 k2
      clear c0 c1 c2 c3 c4 k2
      obtain ⟨c0, c1, c2, c3, c4⟩ := blk5 (v := ⟨s0, A, na, ca, B, nb, cb, L, nl, cl, D, nd, cd⟩) (HX.out.keep k1 id)
      dsimp only at c0 c1 c2 c3 c4
      go_wp2_with fail
      refine (HSl.out _ k1).mono ?_
      rintro e w3 ⟨A3, c3', rfl, _, k2⟩
      replace k1 := keepN k1 k2
      clear c0 c1 c2 c3 c4 k2
      obtain ⟨c0, c1, c2, c3, c4⟩ := blk5 (v := ⟨s0, A, na, ca, B, nb, cb, L, nl, cl, D, nd, cd⟩) (HX.out.keep k1 id)
      dsimp only at c0 c1 c2 c3 c4
      go_wp2_with fail
      refine (HCk.out _ k1).mono ?_
      rintro e w4 ⟨rfl, k2⟩
      replace k1 := keepN k1 k2
      clear c0 c1 c2 c3 c4 k2
      obtain ⟨c0, c1, c2, c3, c4⟩ := blk5 (v := ⟨s0, A, na, ca, B, nb, cb, L, nl, cl, D, nd, cd⟩) (HX.out.keep k1 id)
      dsimp only at c0 c1 c2 c3 c4
      go_wp2_with fail
      refine (HPt.out _ k1).mono ?_
      rintro e w5 ⟨A5, c5', rfl, _, k2⟩
      replace k1 := keepN k1 k2
      clear c0 c1 c2 c3 c4 k2
      go_wp2
      go_ret
      exact ⟨rfl, keepN k0 k1⟩
    · obtain ⟨n, hn⟩ : ∃ n, (sl f).length = n := ⟨_, rfl⟩
      obtain ⟨np, hnp⟩ : ∃ np, (ptr f).length = np := ⟨_, rfl⟩
      have hn64 : n ≤ 64 := by
        obtain ⟨_, _, _, _, h64⟩ := (okF_iff f).1 ho
        rw [← hn, sl_length]; exact h64
      have HSl := Lib.hid (fun w1 hk => slots_lit f (sl f) n v w1 ⟨HF.out.keepN hk, hs⟩ (slF_ok ho) hn)
      have HPt := Lib.hid (fun w1 hk => pointers_lit f ((ptr f).map fun i : Nat => (i : Int)) np v w1 ⟨HF.out.keepN hk, hs⟩ (by unfold ptZ; rw [ptrF_ok ho]) (by rw [List.length_map, hnp]))
      have HCk := Lib.hid (fun w1 hk => check_any v f w1 (HF.out.keepN hk) hs 0 (chkF_ok ho))
      have HSt := Lib.hid (fun (k : Nat) (hk : k < n) w1 hkk => slot_any v f (k : Int) w1 (HF.out.keepN hkk) hs (wh f k) (ty f k) 0 (slot_yes ho (by rw [hn]; exact hk)))
      have HNP := Lib.hid ((ptr_len f).symm.trans hnp)
      rw [hn] at HNP
      have HPA : Hid (∀ k, k < n → ty f k = 4 → ((ptr f).map fun i : Nat => (i : Int))[atF f k]? = some (k : Int)) := fun k hk h4 => by rw [List.getElem?_map, ptr_at (by rw [hn]; exact hk) h4]; rfl
      have HPL : Hid (((ptr f).map fun i : Nat => (i : Int)).length = np) := by show _ = _; rw [List.length_map, hnp]
      have HCA := Lib.hid (cnt_all f)
      rw [hn] at HCA
      have HTY : Hid (∀ (k : Nat) (hk : k < (sl f).length), (sl f)[k] = ty f k) := fun k hk => (ty_at hk).symm
      have HN := Lib.hid hn
      have hla := h.la
      have hlb := h.lb
      have hll := h.ll
      rw [hla, hlb, hll] at HCA
      have hmm := @run_makeMap Tryd.prog
      have hnp64 : np ≤ 64 := by rw [← HNP.out]; exact Nat.le_trans (at_le f n) hn64
      obtain ⟨s0, A, na, ca, B, nb, cb, L, nl, cl, D, nd, cd⟩ := v
      unfold FV.val FV.cells at *
      dsimp only at HCA
      clear bx h hs ho hla hlb hll hn hnp
      go_enter Tryd.func4, Tryd.ntmps4
      go_wp2_with fail
      refine (alive_any _).mono ?_
      rintro e w1 ⟨rfl, k1⟩
      obtain ⟨c0, c1, c2, c3, c4⟩ := blk5 (v := ⟨s0, A, na, ca, B, nb, cb, L, nl, cl, D, nd, cd⟩) (HX.out.keep k1 id)
      dsimp only at c0 c1 c2 c3 c4
      go_wp2_with fail
      refine (HG.out _).mono ?_
      rintro e w2 ⟨rfl, k2⟩
      replace k1 := keepN k1 k2
      clear c0 c1 c2 c3 c4 k2
      obtain ⟨c0, c1, c2, c3, c4⟩ := blk5 (v := ⟨s0, A, na, ca, B, nb, cb, L, nl, cl, D, nd, cd⟩) (HX.out.keep k1 id)
      dsimp only at c0 c1 c2 c3 c4
      go_wp2_with fail
      refine (HSl.out _ k1).mono ?_
      rintro e w3 ⟨A3, c3', rfl, r3, k2⟩
      replace k1 := keepN k1 k2
      clear c0 c1 c2 c3 c4 k2
      obtain ⟨c0, c1, c2, c3, c4⟩ := blk5 (v := ⟨s0, A, na, ca, B, nb, cb, L, nl, cl, D, nd, cd⟩) (HX.out.keep k1 id)
      dsimp only at c0 c1 c2 c3 c4
      go_wp2_with fail
      refine (HCk.out _ k1).mono ?_
      rintro e w4 ⟨rfl, k2⟩
      replace k1 := keepN k1 k2
      replace r3 := r3.keepN k2
      clear c0 c1 c2 c3 c4 k2
      have hI := IMap.new Tryd.prog 3 3 w4
      have k2 := (Keep.refl NoB w4).alloc (.map #[] 0)
      have hgb := k1.size
      replace k1 := keepN k1 k2
      replace r3 := r3.keepN k2
      clear k2
      obtain ⟨c0, c1, c2, c3, c4⟩ := blk5 (v := ⟨s0, A, na, ca, B, nb, cb, L, nl, cl, D, nd, cd⟩) (HX.out.keep k1 id)
      dsimp only at c0 c1 c2 c3 c4
      go_wp2_with fail
      refine (HPt.out _ k1).mono ?_
      rintro e w5 ⟨A5, c5', rfl, r5, k2⟩
      replace k1 := keepN k1 k2
      replace r3 := r3.keepN k2
      replace hI := hI.keep k2 id
      clear c0 c1 c2 c3 c4 k2 HPt HSl HCk HG hmm
      obtain ⟨b, hb⟩ : ∃ b, w4.heap.size = b := ⟨_, rfl⟩
      rw [hb] at hI hgb ⊢
      have hx5 := HX.out.keep k1 id
      have hK5 := keepN k0 k1
      clear hb
      go_wp2
      go_loopw [6, 7, 43] (fun a l i wr => ∃ k : Nat, k ≤ n ∧ i = .int .i64 (k : Int) ∧ a = .int .i64 (atF f k : Nat) ∧ l = .int .i64 (lastF f k) ∧ IMap Tryd.prog 3 3 b k (cntF f k) wr ∧ Keep NoB (w.alloc (.cells #[.string s0, .slice A na ca, .slice B nb cb, .slice L nl cl, .slice D nd cd] 27)) wr ∧ Rd wr A3 (ivs (sl f)) ∧ Rd wr A5 (ivs ((ptr f).map fun i : Nat => (i : Int)))) (fun _ _ i _ => n - (intOf i).toNat)
      case atStart => exact ⟨0, Nat.zero_le _, rfl, rfl, rfl, hI.congr (fun x => cnt_zero f x), k1, r3, r5⟩
      case round =>
        clear hI k1 r3 r5 hK5 hx5
        obtain ⟨k, hk, rfl, rfl, rfl, hI, hK, r3, r5⟩ := hrel
        by_cases hlt : k < n
        · have hkl : k < (sl f).length := by rw [HN.out]; exact hlt
          have HR3 := Lib.hid r3
          have HR5 := Lib.hid r5
          obtain ⟨g, off, rfl, hc⟩ := rdI_at r3 (by omega)
          have ck := hc k hkl
          rw [HTY.out k hkl] at ck
          obtain ⟨c0, c1, c2, c3, c4⟩ := blk5 (v := ⟨s0, A, na, ca, B, nb, cb, L, nl, cl, D, nd, cd⟩) (HX.out.keep hK id)
          dsimp only at c0 c1 c2 c3 c4
          have HS1 := Lib.hid (HSt.out k hlt _ hK)
          obtain ⟨hl0, hl1⟩ := last_le f k
          obtain ⟨hw1, hw3⟩ := wh_in f k
          have HLN := Lib.hid (last_next f k)
          have hcl := cnt_le f k (wh f k)
          have HCN := Lib.hid (fun x => cnt_next f k x)
          have HP := Lib.hid (HPA.out k hlt)
          have HAY := Lib.hid (fun h => at_yes (f := f) (k := k) h)
          have HAN := Lib.hid (fun h => at_no (f := f) (k := k) h)
          have hat := at_le f k
          clear hc r3 r5
          generalize wh f k = q at *
          generalize ty f k = t at *
          generalize lastF f k = lv at *
          generalize atF f k = av at *
          obtain ⟨cv, hcv⟩ : ∃ cv, cntF f k q = cv := ⟨_, rfl⟩
          rw [hcv] at hcl
          have HCV := Lib.hid hcv
          clear hcv
          have d1 : decide (q < lv) = false := by rw [decide_eq_false_iff_not]; omega
          have d3 : decide (3 < q) = false := by rw [decide_eq_false_iff_not]; omega
          go_wp2_with fail
          refine HS1.out.mono ?_
          rintro e w6 ⟨rfl, k6⟩
          have hI6 := hI.keep k6 id
          have hK6 := keepN hK k6
          have hlk := hI6.look (t := 43) Tryd.underlying43 Tryd.underlying3 Tryd.underlying3 (int_zero _) q (wf_in (by omega) (by omega))
          obtain ⟨w7, hup, hI7, hg7⟩ := hI6.update (t := 43) Tryd.underlying43 Tryd.underlying3 Tryd.underlying3 (by unfold maxLen; omega) q (cv + 1) (wf_in (by omega) (by omega)) (wf_in (by omega) (by omega))
          rw [HCV.out] at hlk
          rw [show ((cv + 1 : Nat) : Int) = (cv : Int) + 1 by omega] at hup
          have HI8 : Hid (IMap Tryd.prog 3 3 b (k + 1) (cntF f (k + 1)) w7) := hI7.congr (fun x => by rw [HCN.out x, HCV.out])
          have HR37 := Lib.hid (rd_map (HR3.out.keepN k6) hg7 hI6.obj)
          have HR57 := Lib.hid (rd_map (HR5.out.keepN k6) hg7 hI6.obj)
          have HK8 : Hid (Keep NoB (w.alloc (.cells #[.string s0, .slice A na ca, .slice B nb cb, .slice L nl cl, .slice D nd cd] 27)) w7) := hK6.grown hg7 (fun g e h => by cases e; omega)
          clear hI hI6 hI7 hK hK6 k6 c0 c1 c2 c3 c4 hg7 ck
          by_cases h4 : t = 4
          · subst h4
            have hp := HP.out rfl
            obtain ⟨hpl, _⟩ := List.getElem?_eq_some_iff.1 hp
            rw [HPL.out] at hpl
            obtain ⟨g5, off5, rfl, hc5⟩ := HR57.out (by rw [List.length_map, HPL.out]; omega)
            have cp := hc5 av (.int .i64 (k : Int)) (by rw [List.getElem?_map, hp]; rfl)
            have HA2 := Lib.hid (HAY.out rfl)
            clear hc5 hp
            go_wp2
            go_roundw
            case rel => exact ⟨k + 1, by omega, by go_num, by rw [HA2.out]; go_num, by rw [HLN.out], HI8.out, HK8.out, HR37.out, HR57.out⟩
            case measure => simp [intOf]; omega
          · have h4' : (t == 4) = false := by rw [beq_eq_false_iff_ne]; exact h4
            have HA2 := Lib.hid (HAN.out h4)
            clear h4
            go_wp2
            go_roundw
            case rel => exact ⟨k + 1, by omega, by go_num, by rw [HA2.out], by rw [HLN.out], HI8.out, HK8.out, HR37.out, HR57.out⟩
            case measure => simp [intOf]; omega
        · obtain rfl : k = n := by omega
          obtain ⟨c0, c1, c2, c3, c4⟩ := blk5 (v := ⟨s0, A, na, ca, B, nb, cb, L, nl, cl, D, nd, cd⟩) (HX.out.keep hK id)
          dsimp only at c0 c1 c2 c3 c4
          obtain ⟨e1, e2, e3⟩ := HCA.out
          have l1 := hI.look (t := 43) Tryd.underlying43 Tryd.underlying3 Tryd.underlying3 (int_zero _) 1 (by decide)
          have l2 := hI.look (t := 43) Tryd.underlying43 Tryd.underlying3 Tryd.underlying3 (int_zero _) 2 (by decide)
          have l3 := hI.look (t := 43) Tryd.underlying43 Tryd.underlying3 Tryd.underlying3 (int_zero _) 3 (by decide)
          rw [e1] at l1
          rw [e2] at l2
          rw [e3] at l3
          have HK2 := Lib.hid (keepN k0 hK)
          have e4 := HNP.out
          rw [e4] at *
          clear e1 e2 e3 hI hK r3 r5 e4
          go_wp2
          go_ret
          exact ⟨ret_bool (decide_eq_true (by omega)), HK2.out⟩
  · have HG := Lib.hid (fun w => great_yes v w hs)
    obtain ⟨s0, A, na, ca, B, nb, cb, L, nl, cl, D, nd, cd⟩ := v
    unfold FV.val FV.cells at *
    clear bx h hs
    go_enter Tryd.func4, Tryd.ntmps4
    go_wp2_with fail
    refine (alive_any _).mono ?_
    rintro e w1 ⟨rfl, k1⟩
    obtain ⟨c0, c1, c2, c3, c4⟩ := blk5 (v := ⟨s0, A, na, ca, B, nb, cb, L, nl, cl, D, nd, cd⟩) (HX.out.keep k1 id)
    dsimp only at c0 c1 c2 c3 c4
    go_wp2_with fail
    refine (HG.out _).mono ?_
    rintro e w2 ⟨rfl, k2⟩
    go_wp2
    go_ret
    exact ⟨rfl, keepN (keepN k0 k1) k2⟩

end Go.Proofs.YtbnekeomdhljhaaDoor.F

namespace Go.Proofs.YtbnekeomdhljhaaDoor.O
open Go.ChangeShapes Go.WideShapes Go.ChangeAt Go.RowKit

theorem seatOwn : ownKnob Tryd.prog.godebug = none := by kernel_rfl
theorem seatLaidOut : laidOutB Tryd.prog = true := by kernel_rfl
theorem i64_of_wf {n : Int} (h : (Lit.int .i64 n).wf = true) : I64 n := by
  have hmin : IntKind.i64.min = -9223372036854775808 := rfl
  have hmax : IntKind.i64.max = 9223372036854775807 := rfl
  simp only [Lit.wf, Bool.and_eq_true, decide_eq_true_eq] at h
  unfold I64; omega
theorem tLet : (Tryd.prog.globals[0]?).map (·.type) = some 105 := by kernel_rfl
theorem tPow : (Tryd.prog.globals[3]?).map (·.type) = some 129 := by kernel_rfl
theorem tSyn : (Tryd.prog.globals[4]?).map (·.type) = some 101 := by kernel_rfl
theorem tRng : (Tryd.prog.globals[5]?).map (·.type) = some 101 := by kernel_rfl
theorem tBin : (Tryd.prog.globals[1]?).map (·.type) = some 108 := by kernel_rfl
theorem tUn : (Tryd.prog.globals[2]?).map (·.type) = some 110 := by kernel_rfl
theorem errStar : "*" ++ "errors.errorString" = "*errors.errorString" := by decide
theorem errRow (u : TypeId) (h : Tryd.prog.typeName? 3 u = some "*errors.errorString") : u = 141 :=
  typeName_ptr_named (nm := "errors.errorString") (by rw [errStar]; kernel_rfl) (by kernel_rfl) (by decide) u (by rw [errStar]; exact h)

set_option maxRecDepth 100000 in
theorem laidO_of {W0 : World} {x y : String × DataW Unit}
    (h : laidMet Tryd.prog [("backstay/alu.binNames", Rows.laid_backstay_alu_binNames), ("backstay/alu.unNames", Rows.laid_backstay_alu_unNames), x, y, ("internal/strconv.uint64pow10", Rows.laid_internal_strconv_uint64pow10), ("strconv.ErrRange", Rows.laid_strconv_ErrRange), ("strconv.ErrSyntax", Rows.laid_strconv_ErrSyntax), ("backstay/value.letters", Rows.laid_backstay_value_letters)] W0) : LaidO W0 := by
  have h4 := h.tail.tail.tail.tail
  have h5 := h4.tail
  have h6 := h5.tail
  refine ⟨Lib.tabIs_of_head (zs := [0, 73, 82, 70, 80]) (k := .i32) _root_.Go.Proofs.YtbnekeomdhljhaaDoor.W.gLet tLet Tryd.underlying105 Tryd.underlying21 (by kernel_rfl) (by kernel_rfl) h6.tail,
    ⟨A.strs_of_head (l := A.binNs) A.gBin tBin Tryd.underlying108 Tryd.underlying9 (by kernel_rfl) (by kernel_rfl) h,
     A.strs_of_head (l := A.unNs) A.gUn tUn Tryd.underlying110 Tryd.underlying9 (by kernel_rfl) (by kernel_rfl) h.tail⟩,
    Lib.tabIs_of_head (zs := Lib.pow10Tab) (k := .u64) _root_.Go.Proofs.YtbnekeomdhljhaaDoor.W.gPow tPow Tryd.underlying129 Tryd.underlying114 (by kernel_rfl) (by kernel_rfl) h4, ?_, ?_⟩
  · obtain ⟨a, s, hv, _⟩ := laid_sentinel h6 _root_.Go.Proofs.YtbnekeomdhljhaaDoor.W.gSyn tSyn Tryd.underlying101 errRow Tryd.underlying141 Tryd.underlying143 rfl rfl Tryd.underlying9 (by kernel_rfl) (by kernel_rfl)
    exact ⟨_, _, hv⟩
  · obtain ⟨a, s, hv, _⟩ := laid_sentinel h5 _root_.Go.Proofs.YtbnekeomdhljhaaDoor.W.gRng tRng Tryd.underlying101 errRow Tryd.underlying141 Tryd.underlying143 rfl rfl Tryd.underlying9 (by kernel_rfl) (by kernel_rfl)
    exact ⟨_, _, hv⟩

section
variable {H : Type} {enc : TypeId × Value → H} {w : World} {base b0 : Nat} {spare : Nat → Bool} {held : Bool} {r : Reach} {v : Value} {d : DataW H} {p : List MemPlace}
set_option maxRecDepth 100000 in
theorem open_inst (hv : Value.okWide Tryd.prog w r b0 69 v) (h : DataW.Trod enc Tryd.prog w base spare held 69 v d p) :
    ∃ op a b, v = .agg #[.int .i64 op, .int .i64 a, .int .i64 b] ∧ d = .agg [.lit (.int .i64 op), .lit (.int .i64 a), .lit (.int .i64 b)] ∧ p = [] ∧ I64 op ∧ I64 a ∧ I64 b := by
  obtain ⟨v0, v1, v2, y0, y1, y2, n, rfl, rfl, rfl, h0, h1, h2⟩ := Joins.open_agg3 Tryd.underlying69 (by kernel_rfl) (by kernel_rfl) hv h
  obtain ⟨a, e0, rfl, w0⟩ := DataW.trod_int Tryd.underlying3 h0
  obtain ⟨b, e1, rfl, w1⟩ := DataW.trod_int Tryd.underlying2 h1
  obtain ⟨c, e2, rfl, w2⟩ := DataW.trod_int Tryd.underlying2 h2
  injection e0 with e0 _
  injection e1 with e1 _
  injection e2 with e2 _
  subst e0 e1 e2
  exact ⟨a, b, c, rfl, rfl, rfl, i64_of_wf w0, i64_of_wf w1, i64_of_wf w2⟩
end

end Go.Proofs.YtbnekeomdhljhaaDoor.O

namespace Go.Proofs.YtbnekeomdhljhaaDoor.V
open Go.ChangeShapes Go.WideShapes Go.ChangeAt Go.RowKit

theorem cellsU8 : Tryd.prog.cellsOf 5 = 1 := by kernel_rfl

theorem u8_bounds {n : Int} (h : (Lit.int .u8 n).wf = true) : 0 ≤ n ∧ n < 256 := by
  have hmin : IntKind.u8.min = 0 := rfl
  have hmax : IntKind.u8.max = 255 := rfl
  simp only [Lit.wf, Bool.and_eq_true, decide_eq_true_eq] at h
  omega

/-- The bytes of a list of numbers that fit bytes. -/
def toU8 (zs : List Int) : List UInt8 := zs.map fun z => UInt8.ofNat z.toNat
theorem bvs_toU8 (zs : List Int) (h : ∀ n ∈ zs, (Lit.int .u8 n).wf = true) : bvs (toU8 zs) = zs.map (Value.int .u8) := by
  unfold bvs toU8
  rw [List.map_map]
  apply List.map_congr_left
  intro z hz
  obtain ⟨h0, h1⟩ := u8_bounds (h z hz)
  show Value.int .u8 (((UInt8.ofNat z.toNat).toNat : Nat) : Int) = _
  rw [UInt8.toNat_ofNat', Nat.mod_eq_of_lt (show z.toNat < 2 ^ 8 by omega)]
  congr 1
  omega

set_option maxRecDepth 100000 in
theorem read_bytes {H : Type} {enc : TypeId × Value → H} {W : World} {base : Nat} {spare : Nat → Bool} {held : Bool} {fuel : Nat} {cs : List Value} {x : DataW H × List MemPlace}
    (h : DataW.trod enc Tryd.prog W base spare held fuel 117 cs = some x) : ∃ A l c, cs = [.slice A l.length c] ∧ Rd W A l ∧ l.length ≤ c ∧ c ≤ maxLen := by
  rcases open_ints Tryd.underlying117 Tryd.underlying5 cellsU8 h with ⟨hcs, _⟩ | ⟨a, len, cap, zs, hcs, _, hl, hm, hz, _, hcell, hwz⟩
  · exact ⟨none, [], 0, hcs, Rd.none_ _ _, Nat.le_refl _, Nat.zero_le _⟩
  · have hzl : len ≤ zs.length := by rw [hz]; split <;> omega
    have hlen : (toU8 (zs.take len)).length = len := by simp [toU8]; omega
    refine ⟨some a, toU8 (zs.take len), cap, by rw [hlen]; exact hcs, fun _ => ⟨a, rfl, fun j u hu => ?_⟩, by rw [hlen]; exact hl, hm⟩
    rw [bvs_toU8 _ (fun n hn => hwz n (List.mem_of_mem_take hn))] at hu
    obtain ⟨hj, hju⟩ := List.getElem?_eq_some_iff.1 hu
    have hj' : j < len := by simp at hj; omega
    have hc := hcell j (by omega)
    rw [hc]
    simp at hju
    rw [← hju]
    simp [List.getD, List.getElem?_eq_getElem (show j < zs.length by omega)]

section
variable {H : Type} {enc : TypeId × Value → H} {w : World} {base b0 : Nat} {spare : Nat → Bool} {held : Bool} {r : Reach} {v : Value} {d : DataW H} {p : List MemPlace}
set_option maxRecDepth 100000 in
theorem open_bytes (hv : Value.okWide Tryd.prog w r b0 117 v) (h : DataW.Trod enc Tryd.prog w base spare held 117 v d p) : ∃ A l c, v = .slice A l.length c ∧ Rd w A l ∧ l.length ≤ c ∧ c ≤ maxLen := by
  obtain ⟨a0, len, cap, rfl⟩ := okWide_slice Tryd.underlying117 hv
  obtain ⟨fuel, hf⟩ := h
  obtain ⟨A, l, c, hcs, hr, hc, hm⟩ := read_bytes hf
  simp only [Value.cells, List.cons.injEq, Value.slice.injEq, and_true] at hcs
  obtain ⟨rfl, rfl, rfl⟩ := hcs
  exact ⟨_, l, _, rfl, hr, hc, hm⟩
end

end Go.Proofs.YtbnekeomdhljhaaDoor.V

namespace Go.Proofs.YtbnekeomdhljhaaDoor.O
open Go.ChangeShapes Go.WideShapes Go.ChangeAt Go.RowKit

theorem handed_and {H : Type} {enc : TypeId × Value → H} {a : Assume} {C : Checked} {os : Os} {f : FuncId} {fn : Func} {s : ChangeSpec} {conds : List PathCond} {apart fresh handsOn again : Bool} {X : World → Array Value → Prop}
    (hX : ∀ (w w' : World) (args : Array Value), w.heap = w'.heap → X w args → X w' args) (own : ownKnob C.prog.godebug = none) (started : os.Started) (noInit : C.prog.inits.idxOf? f = none) (hfn : C.prog.funcs[f]? = some fn)
    (witness : ∃ (w : World) (tape : Tape) (i : Input), w.os = os ∧ (w.forCall tape i).Shaped C.prog ∧ i.vars = [] ∧ Input.okWide C.prog (w.forCall tape i) .any w.heap.size f i ∧
      ((s.pre enc C.prog fn conds apart (w.forCall tape i).memory i.args ∧ X (w.forCall tape i).memory i.args) ∧ sizedMet enc C.prog fn (OpenSpec.ofChange s) apart (w.forCall tape i).memory i.args) ∧ a.holds C.prog (lone (Frame.enter C.prog f i.args .normal) [] (w.forCall tape i)))
    (contract : ∀ (W : World) (base : Nat) (args : Array Value) (ds gs : List (DataW H)) (before : List MemPlace),
      (∀ (j : Nat) t v, fn.params[j]? = some t → args[j]? = some v → Value.okWide C.prog W .any base t v) → DataW.Whole enc C.prog fn.params.toList s.vars apart W args.toList ds gs before →
      W.ShapedOpen C.prog → X W args → Calls C.prog f args W fun e W' => ∃ v, e = .returned v ∧ s.post enc C.prog fn apart fresh handsOn again W args v W') :
    ReturnsInHanded a C os f .any (fun w args => (s.pre enc C.prog fn conds apart w args ∧ X w args) ∧ sizedMet enc C.prog fn (OpenSpec.ofChange s) apart w args) (s.post enc C.prog fn apart fresh handsOn again) := by
  refine returnsInHanded_of_calls own started noInit witness ?_
  intro w tape i _ hsh _ hok hpre _
  obtain ⟨_, _, _, fn', hfn', _, _, _, _, hval⟩ := hok
  obtain rfl : fn' = fn := Option.some.inj (hfn'.symm.trans hfn)
  obtain ⟨⟨⟨ds, gs, before, hw, _⟩, hx⟩, _⟩ := hpre
  refine (contract (w.forCall tape i) w.heap.size i.args ds gs before hval (DataW.Whole.of_heap (w' := w.forCall tape i) (by rfl) hw) hsh (hX _ _ _ (by rfl) hx)).mono fun e W' ⟨v, he, hp⟩ => ?_
  subst he
  exact ChangeSpec.post_blind hp

end Go.Proofs.YtbnekeomdhljhaaDoor.O

namespace Go.Proofs.YtbnekeomdhljhaaDoor.C
open Go.ChangeShapes Go.WideShapes Go.ChangeAt Go.RowKit Go.Deep O

theorem addr_of_cell {w : World} {a : Addr} {v : Value} (h : w.cell? a = some v) : a = ⟨a.block, a.off, none⟩ := by
  obtain ⟨b, o, s⟩ := a
  cases s with
  | none => rfl
  | some s => unfold World.cell? at h; split at h <;> simp at h
theorem add_of (b o k : Nat) : (⟨b, o, none⟩ : Addr).add k = ⟨b, o + k, none⟩ := by unfold Addr.add; by_cases hk : k = 0 <;> simp [hk]

section
variable {H : Type} {enc : TypeId × Value → H} {W : World} {base : Nat} {spare : Nat → Bool} {held : Bool} {fuel : Nat} {cs : List Value} {x : DataW H × List MemPlace}
set_option maxRecDepth 100000 in
theorem read_insts (h : DataW.trod enc Tryd.prog W base spare held fuel 25 cs = some x) : ∃ A l c, cs = [.slice A l.length c] ∧ Rd W A (iis l) ∧ l.length ≤ c ∧ c ≤ maxLen ∧ AllI l := by
  rcases open_slice Tryd.underlying25 h with ⟨hcs, _⟩ | ⟨a, len, cap, m, n, D, Pl, hcs, _, hl, hm, hmm, _, hi⟩
  · exact ⟨none, [], 0, hcs, Rd.none_ _ _, Nat.le_refl _, Nat.zero_le _, fun _ h => by simp at h⟩
  · have hlm : len ≤ m := by rw [hmm]; split <;> omega
    have cI : Tryd.prog.cellsOf 69 = 3 := by kernel_rfl
    have c3 : Tryd.prog.cellsOf 3 = 1 := by kernel_rfl
    have c2 : Tryd.prog.cellsOf 2 = 1 := by kernel_rfl
    have each : ∀ i : Nat, ∃ v : I3, i < len → W.cell? (a.add (i * 3)) = some (.int .i64 v.1) ∧ W.cell? ((a.add (i * 3)).add 1) = some (.int .i64 v.2.1) ∧ W.cell? ((a.add (i * 3)).add 2) = some (.int .i64 v.2.2) ∧ O.I64 v.2.1 ∧ O.I64 v.2.2 := by
      intro i
      by_cases hlt : i < len
      · obtain ⟨cs', hc, ht'⟩ := hi i (by omega)
        rw [cI] at hc
        obtain ⟨y0, y1, y2, k, _, hlen, h0, h1, h2⟩ := trod_struct3 Tryd.underlying69 ht'
        obtain ⟨_, hcl, hat⟩ := World.cells?_some hc
        match cs', hcl with
        | [u0, u1, u2], _ =>
          have g0 := hat 0 (by omega)
          have g1 := hat 1 (by omega)
          have g2 := hat 2 (by omega)
          obtain ⟨z0, e0, _, w0⟩ := DataW.trod_int Tryd.underlying3 h0
          obtain ⟨z1, e1, _, w1⟩ := DataW.trod_int Tryd.underlying2 h1
          obtain ⟨z2, e2, _, w2⟩ := DataW.trod_int Tryd.underlying2 h2
          simp [c3] at e0
          simp [c2] at e1
          simp [c2] at e2
          subst e0 e1 e2
          exact ⟨(z0, z1, z2), fun _ => ⟨by simpa [Addr.add] using g0, by simpa using g1, by simpa using g2, i64_of_wf w1, i64_of_wf w2⟩⟩
      · exact ⟨(0, 0, 0), fun h => absurd h hlt⟩
    obtain ⟨f, hf⟩ := Classical.axiomOfChoice each
    have hlen : ((List.range len).map f).length = len := by simp
    refine ⟨some a, (List.range len).map f, cap, by rw [hlen]; exact hcs, fun h0 => ?_, by rw [hlen]; exact hl, hm, fun v hv => ?_⟩
    · have h0' : 0 < len := by rw [iis_length, hlen] at h0; omega
      have ea := addr_of_cell (hf 0 h0').1
      have ea' : a = ⟨a.block, a.off, none⟩ := by simpa [Addr.add] using ea
      refine ⟨a.block, a.off, by rw [← ea'], fun j u hu => ?_⟩
      have hj : j < len * 3 := by have := (List.getElem?_eq_some_iff.1 hu).1; rw [iis_length, hlen] at this; exact this
      have hd : j / 3 < len := by omega
      obtain ⟨k0, k1, k2, _⟩ := hf (j / 3) hd
      obtain ⟨q0, q1, q2⟩ := iis_at ((List.range len).map f) (j / 3) (by rw [hlen]; exact hd)
      rw [ea', add_of] at k0 k1 k2
      rw [add_of] at k1 k2
      simp only [List.getElem_map, List.getElem_range] at q0 q1 q2
      have hm3 : j % 3 = 0 ∨ j % 3 = 1 ∨ j % 3 = 2 := by omega
      rcases hm3 with hr | hr | hr
      · have ej : j = j / 3 * 3 := by omega
        rw [ej, q0] at hu
        rw [ej, k0]; exact hu
      · have ej : j = j / 3 * 3 + 1 := by omega
        rw [ej, q1] at hu
        rw [ej, ← Nat.add_assoc, k1]; exact hu
      · have ej : j = j / 3 * 3 + 2 := by omega
        rw [ej, q2] at hu
        rw [ej, ← Nat.add_assoc, k2]; exact hu
    · obtain ⟨i, hi', rfl⟩ := List.mem_map.1 hv
      exact ⟨(hf i (List.mem_range.1 hi')).2.2.2.1, (hf i (List.mem_range.1 hi')).2.2.2.2⟩
end
section
variable {H : Type} {enc : TypeId × Value → H} {w : World} {base b0 : Nat} {spare : Nat → Bool} {held : Bool} {r : Reach} {v : Value} {d : DataW H} {p : List MemPlace}
set_option maxRecDepth 100000 in
theorem open_insts (hv : Value.okWide Tryd.prog w r b0 25 v) (h : DataW.Trod enc Tryd.prog w base spare held 25 v d p) : ∃ A l c, v = .slice A l.length c ∧ Rd w A (iis l) ∧ l.length ≤ c ∧ c ≤ maxLen ∧ AllI l := by
  obtain ⟨a0, len, cap, rfl⟩ := okWide_slice Tryd.underlying25 hv
  obtain ⟨fuel, hf⟩ := h
  obtain ⟨A, l, c, hcs, hr, hc, hm, hI⟩ := read_insts hf
  simp only [Value.cells, List.cons.injEq, Value.slice.injEq, and_true] at hcs
  obtain ⟨rfl, rfl, rfl⟩ := hcs
  exact ⟨_, l, _, rfl, hr, hc, hm, hI⟩
end

end Go.Proofs.YtbnekeomdhljhaaDoor.C

namespace Go.Proofs.YtbnekeomdhljhaaDoor.F
open Go.ChangeShapes Go.WideShapes Go.ChangeAt Go.RowKit Go.Deep W

section
variable {H : Type} {enc : TypeId × Value → H} {W0 : World} {base : Nat} {spare : Nat → Bool} {held : Bool} {fuel : Nat} {cs : List Value} {x : DataW H × List MemPlace}
theorem read_ints (h : DataW.trod enc Tryd.prog W0 base spare held fuel 22 cs = some x) : ∃ A l c, cs = [.slice A l.length c] ∧ Rd W0 A (ivs l) ∧ l.length ≤ c ∧ c ≤ maxLen := by
  rcases open_ints Tryd.underlying22 Tryd.underlying3 (by kernel_rfl) h with ⟨hcs, _⟩ | ⟨a, len, cap, zs, hcs, _, hl, hm, hz, _, hcell, _⟩
  · exact ⟨none, [], 0, hcs, Rd.none_ _ _, Nat.le_refl _, Nat.zero_le _⟩
  · have hzl : len ≤ zs.length := by rw [hz]; split <;> omega
    have hlen : (zs.take len).length = len := by rw [List.length_take]; omega
    refine ⟨some a, zs.take len, cap, by rw [hlen]; exact hcs, fun h0 => ?_, by rw [hlen]; exact hl, hm⟩
    have h0' : 0 < len := by rw [List.length_map, hlen] at h0; exact h0
    have ea := C.addr_of_cell (hcell 0 (by omega))
    have ea' : a = ⟨a.block, a.off, none⟩ := by simpa [Addr.add] using ea
    refine ⟨a.block, a.off, by rw [← ea'], fun j u hu => ?_⟩
    obtain ⟨hj, hju⟩ := List.getElem?_eq_some_iff.1 hu
    have hj' : j < len := by simp at hj; omega
    have hc := hcell j (by omega)
    rw [ea', C.add_of] at hc
    rw [hc]
    simp at hju
    rw [← hju]
    simp [List.getD, List.getElem?_eq_getElem (show j < zs.length by omega)]
set_option maxRecDepth 100000 in
theorem read_vals (h : DataW.trod enc Tryd.prog W0 base spare held fuel 28 cs = some x) : ∃ A l c, cs = [.slice A l.length c] ∧ Rd W0 A (vvs l) ∧ l.length ≤ c ∧ c ≤ maxLen := by
  rcases open_slice Tryd.underlying28 h with ⟨hcs, _⟩ | ⟨a, len, cap, m, n, D, Pl, hcs, _, hl, hm, hmm, _, hi⟩
  · exact ⟨none, [], 0, hcs, Rd.none_ _ _, Nat.le_refl _, Nat.zero_le _⟩
  · have hlm : len ≤ m := by rw [hmm]; split <;> omega
    have c35 : Tryd.prog.cellsOf 39 = 2 := by kernel_rfl
    have c3 : Tryd.prog.cellsOf 3 = 1 := by kernel_rfl
    have c2 : Tryd.prog.cellsOf 2 = 1 := by kernel_rfl
    have each : ∀ i : Nat, ∃ v : Int × Int, i < len → W0.cell? (a.add (i * 2)) = some (.int .i64 v.1) ∧ W0.cell? ((a.add (i * 2)).add 1) = some (.int .i64 v.2) := by
      intro i
      by_cases hlt : i < len
      · obtain ⟨cs', hc, ht'⟩ := hi i (by omega)
        rw [c35] at hc
        obtain ⟨y0, y1, k, _, hlen, h0, h1⟩ := trod_struct2 Tryd.underlying39 ht'
        obtain ⟨_, hcl, hat⟩ := World.cells?_some hc
        match cs', hcl with
        | [u0, u1], _ =>
          have g0 := hat 0 (by omega)
          have g1 := hat 1 (by omega)
          obtain ⟨z0, e0, _, w0⟩ := DataW.trod_int Tryd.underlying3 h0
          obtain ⟨z1, e1, _, w1⟩ := DataW.trod_int Tryd.underlying2 h1
          simp [c3] at e0
          simp [c2] at e1
          subst e0 e1
          exact ⟨(z0, z1), fun _ => ⟨by simpa [Addr.add] using g0, by simpa using g1⟩⟩
      · exact ⟨(0, 0), fun h => absurd h hlt⟩
    obtain ⟨f, hf⟩ := Classical.axiomOfChoice each
    have hlen : ((List.range len).map f).length = len := by simp
    refine ⟨some a, (List.range len).map f, cap, by rw [hlen]; exact hcs, fun h0 => ?_, by rw [hlen]; exact hl, hm⟩
    have h0' : 0 < len := by rw [vvs_length, hlen] at h0; omega
    have ea := C.addr_of_cell (hf 0 h0').1
    have ea' : a = ⟨a.block, a.off, none⟩ := by simpa [Addr.add] using ea
    refine ⟨a.block, a.off, by rw [← ea'], fun j u hu => ?_⟩
    have hj : j < len * 2 := by have := (List.getElem?_eq_some_iff.1 hu).1; rw [vvs_length, hlen] at this; exact this
    have hd : j / 2 < len := by omega
    obtain ⟨k0, k1⟩ := hf (j / 2) hd
    obtain ⟨q0, q1⟩ := vvs_at ((List.range len).map f) (j / 2) (by rw [hlen]; exact hd)
    rw [ea', C.add_of] at k0 k1
    rw [C.add_of] at k1
    simp only [List.getElem_map, List.getElem_range] at q0 q1
    rcases Nat.mod_two_eq_zero_or_one j with hr | hr
    · have ej : j = j / 2 * 2 := by omega
      rw [ej, q0] at hu
      rw [ej, k0]; exact hu
    · have ej : j = j / 2 * 2 + 1 := by omega
      rw [ej, q1] at hu
      rw [ej, ← Nat.add_assoc, k1]; exact hu
end
section
variable {H : Type} {enc : TypeId × Value → H} {w : World} {base b0 : Nat} {spare : Nat → Bool} {held : Bool} {r : Reach} {v : Value} {d : DataW H} {p : List MemPlace}
set_option maxRecDepth 100000 in
theorem open_vals (hv : Value.okWide Tryd.prog w r b0 28 v) (h : DataW.Trod enc Tryd.prog w base spare held 28 v d p) : ∃ A l c, v = .slice A l.length c ∧ Rd w A (vvs l) ∧ l.length ≤ c ∧ c ≤ maxLen := by
  obtain ⟨a0, len, cap, rfl⟩ := okWide_slice Tryd.underlying28 hv
  obtain ⟨fuel, hf⟩ := h
  obtain ⟨A, l, c, hcs, hr, hc, hm⟩ := read_vals hf
  simp only [Value.cells, List.cons.injEq, Value.slice.injEq, and_true] at hcs
  obtain ⟨rfl, rfl, rfl⟩ := hcs
  exact ⟨_, l, _, rfl, hr, hc, hm⟩
theorem array5 {α : Type} {cs : Array α} (h : cs.size = 5) : ∃ c0 c1 c2 c3 c4, cs = #[c0, c1, c2, c3, c4] := by
  obtain ⟨l⟩ := cs
  match l, h with
  | [c0, c1, c2, c3, c4], _ => exact ⟨c0, c1, c2, c3, c4, rfl⟩
set_option maxRecDepth 100000 in
theorem open_fun (hv : Value.okWide Tryd.prog w r b0 27 v) (h : DataW.Trod enc Tryd.prog w base spare held 27 v d p) : ∃ (fv : FV) (f : Fu), v = fv.val ∧ FnAt w fv f := by
  have k9 : Tryd.prog.cellsOf 9 = 1 := by kernel_rfl
  have k24 : Tryd.prog.cellsOf 24 = 2 := by kernel_rfl
  have k22 : Tryd.prog.cellsOf 22 = 1 := by kernel_rfl
  have k25 : Tryd.prog.cellsOf 25 = 1 := by kernel_rfl
  obtain ⟨cs, rfl, hsz⟩ := okWide_struct Tryd.underlying27 hv
  obtain ⟨c0, c1, c2, c3, c4, rfl⟩ := array5 (hsz.trans (by kernel_rfl))
  obtain ⟨fuel, hf⟩ := h
  obtain ⟨y0, y1, y2, y3, n, hx, _, h0, h1, h2, h3⟩ := Joins.trod_struct4 Tryd.underlying27 hf
  simp only [Value.cells, k9, k24, k22, k25, List.drop_zero, List.drop_succ_cons, List.take_succ_cons, List.take_zero] at h0 h1 h2 h3
  obtain ⟨s0, e0, _, _⟩ := DataW.trod_string Tryd.underlying9 h0
  obtain ⟨z0, z1, n1, _, _, g0, g1⟩ := trod_struct2 Tryd.underlying24 h1
  simp only [k22, List.drop_zero, List.drop_succ_cons, List.take_succ_cons, List.take_zero] at g0 g1
  obtain ⟨A, a, ca, e1, ra, _, _⟩ := read_ints g0
  obtain ⟨B, b, cb, e2, rb, _, _⟩ := read_ints g1
  obtain ⟨L, l, cl, e3, rl, _, _⟩ := read_ints h2
  obtain ⟨D, bd, cd, e4, rd, _, _, hI⟩ := C.read_insts h3
  simp only [List.cons.injEq, and_true] at e0 e1 e2 e3 e4
  subst e0 e1 e2 e3 e4
  exact ⟨⟨s0, A, a.length, ca, B, b.length, cb, L, l.length, cl, D, bd.length, cd⟩, ⟨s0.data.toList, a, b, l, bd⟩, rfl, ⟨rfl, ra, rb, rl, rd, rfl, rfl, rfl, rfl, hI⟩⟩
end

end Go.Proofs.YtbnekeomdhljhaaDoor.F
