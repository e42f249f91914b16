/-
  What Show answers, the code's and the document's, of any value; the document's digits. Conditions: the variables that it reads hold what their initialisers lay; the value's number fits an int64.
-/
import Derived.Test.YtkhbmbkjaeaamaaDoorWShow
namespace Go.Proofs.YtkhbmbkjaeaamaaDoor
open Go.RowKit

set_option maxRecDepth 100000 in
set_option maxHeartbeats 4000000 in
theorem show_any (t n : Int) (w : World) (hn : I64 n) (h : Laid w) :
    Calls Tryd.prog 21 #[.agg #[.int .i64 t, .int .i64 n]] w fun e w' => e = .returned (.string (str (showL t n))) ∧ Keep NoB w w' := by
  have hB := Blk.new w 35 #[.int .i64 t, .int .i64 n]
  have hK := (Keep.refl NoB w).alloc (.cells #[.int .i64 t, .int .i64 n] 35)
  cases hok : okB t n
  · have HX := Lib.hid (show_bad hok)
    have HC := Lib.hid (check_bad t n · hok)
    clear hok
    go_enter Tryd.func21, Tryd.ntmps21
    go_wp2_with fail
    refine (HC.out _).mono ?_
    rintro e w2 ⟨rfl, hk2⟩
    go_wp2
    go_ret
    exact ⟨by rw [HX.out]; rfl, keepN hK hk2⟩
  · cases hz : nilB t n
    · by_cases h4 : t = 4
      · subst h4
        have HX := Lib.hid (show_ptr (n := n) (by rw [nil_not] at hz; rw [ok_iff] at hok; omega))
        have HC := Lib.hid (check_ok 4 n · hok)
        have HN := Lib.hid (fun W => nil_any 4 n W)
        rw [hz] at HN
        clear hok hz
        go_enter Tryd.func21, Tryd.ntmps21
        go_wp2_with fail
        refine (HC.out _).mono ?_
        rintro e w2 ⟨rfl, hk2⟩
        have b2 := hB.keep hk2 id
        have c0 : w2.cell? ⟨w.heap.size, 0, none⟩ = some (.int .i64 4) := b2.cell 0
        have c1 : w2.cell? ⟨w.heap.size, 1, none⟩ = some (.int .i64 n) := b2.cell 1
        go_wp2_with fail
        refine (HN.out _).mono ?_
        rintro e w3 ⟨rfl, hk3⟩
        have b3 := b2.keep hk3 id
        have hK3 := keepN (keepN hK hk2) hk3
        have h3 := h.keep hK3
        clear c0 c1
        have c0 : w3.cell? ⟨w.heap.size, 0, none⟩ = some (.int .i64 4) := b3.cell 0
        have c2 : w3.cell? ⟨1, 4, none⟩ = some (.string ⟨#[38]⟩) := h3.cell 4
        go_wp2
        go_ret
        exact ⟨by rw [HX.out]; rfl, hK3⟩
      · have ho := (ok_iff t n).1 hok
        obtain ⟨k, rfl⟩ := Int.eq_ofNat_of_zero_le (a := t) (by omega)
        exact show_num_any k n w (by omega) (by omega) hn hok hz h
    · have HX := Lib.hid (show_nil hz)
      have HC := Lib.hid (check_ok t n · hok)
      have HN := Lib.hid (fun W => nil_any t n W)
      rw [hz] at HN
      clear hok hz
      go_enter Tryd.func21, Tryd.ntmps21
      go_wp2_with fail
      refine (HC.out _).mono ?_
      rintro e w2 ⟨rfl, hk2⟩
      have b2 := hB.keep hk2 id
      have c0 : w2.cell? ⟨w.heap.size, 0, none⟩ = some (.int .i64 t) := b2.cell 0
      have c1 : w2.cell? ⟨w.heap.size, 1, none⟩ = some (.int .i64 n) := b2.cell 1
      go_wp2_with fail
      refine (HN.out _).mono ?_
      rintro e w3 ⟨rfl, hk3⟩
      go_wp2
      go_ret
      exact ⟨by rw [HX.out]; rfl, keepN (keepN hK hk2) hk3⟩

/-! ### guess, Read -/

/-- strconv.ParseInt at base 10, 64 bits: the number, whatever the error. -/
theorem parse_any (S : ByteArray) (s : List UInt8) (w : World) (hs : S.data.toList = s) (hl : S.size ≤ 281474976710656) (h : Laid w) :
    Calls Tryd.prog 50 #[.string S, .int .i64 10, .int .i64 64] w fun e w' => ∃ er, e = .returned (.tuple #[.int .i64 (pI s), er]) ∧ Keep NoB w w' := by
  have e64 : Lib.parseIntB 64 S.data.toList = Lib.atoiAll s := by rw [Lib.parseIntB_64, hs]
  unfold pI
  rcases ha : Lib.atoiAll s with v | _ | _
  · rw [ha] at e64
    refine (Tryd.strconv_ParseInt_10_at64_ok S (by omega) v e64 w).mono ?_
    rintro e w' ⟨rfl, hw⟩
    refine ⟨_, rfl, ?_⟩
    rcases hw with rfl | ⟨t, rfl⟩
    · exact Keep.refl _ _
    · exact Keep.of_below (Lib.bytesWorld_below _ _ _)
  · rw [ha] at e64
    obtain ⟨tp, p, hv⟩ := h.syn
    refine (Tryd.strconv_ParseInt_10_at64_syntax_var S hl e64 tp p w hv).mono ?_
    rintro e w' ⟨N, rfl, _, _, hb⟩
    exact ⟨_, rfl, Keep.of_below hb⟩
  · rw [ha] at e64
    obtain ⟨tp, p, hv⟩ := h.rng
    refine (Tryd.strconv_ParseInt_10_at64_range_var S hl e64 tp p w hv).mono ?_
    rintro e w' ⟨N, rfl, _, _, hb⟩
    rw [Lib.intSat_64, hs]
    exact ⟨_, rfl, Keep.of_below hb⟩

theorem trim_any (S : ByteArray) (s g : List UInt8) (w : World) (hs : S.data.toList = s) :
    Calls Tryd.prog 51 #[.string S, .string (str g)] w fun e w' => e = .returned (.string (str (Lib.trimPrefix s g))) ∧ w = w' := by
  refine (Tryd.strings_TrimPrefix S (str g) w).mono ?_
  rintro e w' ⟨rfl, hw⟩
  exact ⟨by rw [hs], hw.symm⟩

theorem w64_w (n : Int) : wrap64 n = w64 n := by unfold wrap64 w64; rfl

set_option maxRecDepth 100000 in
set_option maxHeartbeats 4000000 in
theorem guess_any (k : Nat) (S : ByteArray) (s : List UInt8) (w : World) (hk1 : 1 ≤ k) (hk4 : k ≤ 4) (hs : Hid (S.data.toList = s)) (hl : S.size ≤ 281474976710656) (h : Laid w) :
    Calls Tryd.prog 35 #[.int .i64 (k : Int), .string S] w fun e w' => e = .returned (.agg #[.int .i64 (k : Int), .int .i64 (gN k s)]) ∧ Keep NoB w w' := by
  have hB := Blk.new w 35 #[.int .i64 0, .int .i64 0]
  have hK := (Keep.refl NoB w).alloc (.cells #[.int .i64 0, .int .i64 0] 35)
  have h1 := h.keep hK
  by_cases hnil : s = [110, 105, 108]
  · have HG : Hid (gN (k : Int) s = 0) := by show _ = _; unfold gN; rw [if_pos hnil]
    have hq : (S.toList == [110, 105, 108]) = true := by rw [ByteArray.toList_eq, hs.out, hnil]; rfl
    clear hnil
    go_enter Tryd.func35, Tryd.ntmps35
    go_wp2
    exact bodyPost_ret (v := .agg #[.int .i64 (k : Int), .int .i64 0]) (by simp [results, Tryd.results35, go_sem]) rfl ⟨by rw [HG.out], (Keep.refl NoB w).alloc _⟩
  · have HG : Hid (gN (k : Int) s = w64 (pI (Lib.trimPrefix s (sgn (k : Int))) + off (k : Int))) := by show _ = _; unfold gN; rw [if_neg hnil]
    have hq : (S.toList == [110, 105, 108]) = false := by rw [ByteArray.toList_eq, hs.out, beq_eq_false_iff_ne]; exact hnil
    have cg := sig_at h1 hk1 hk4
    have htl : (str (Lib.trimPrefix s (sgn (k : Int)))).size ≤ 281474976710656 := by
      rw [size_of (s := Lib.trimPrefix s (sgn (k : Int))) (by simp)]
      have : (Lib.trimPrefix s (sgn (k : Int))).length ≤ s.length := by unfold Lib.trimPrefix; split <;> simp
      have := size_of hs.out
      omega
    obtain ⟨o, ho⟩ : ∃ o, Hid (off (k : Int) = o) := ⟨_, rfl⟩
    have hk5 : (k : Int) < 5 := by omega
    have HT := Lib.hid htl
    clear hnil htl
    go_enter Tryd.func35, Tryd.ntmps35
    go_wp2_with fail
    refine (trim_any S s (sgn (k : Int)) _ hs.out).mono ?_
    rintro e w2 ⟨rfl, rfl⟩
    go_wp2_with fail
    refine (parse_any _ (Lib.trimPrefix s (sgn (k : Int))) _ (by simp) HT.out h1).mono ?_
    rintro e w3 ⟨er, rfl, hk3⟩
    have b3 := hB.keep hk3 id
    have hz3 := b3.lt
    have c0 : w3.cell? ⟨w.heap.size, 0, none⟩ = some (.int .i64 0) := b3.cell 0
    have c1 : w3.cell? ⟨w.heap.size, 1, none⟩ = some (.int .i64 0) := b3.cell 1
    have f0 := b3.frozen 0
    have f1 := b3.frozen 1
    have hK3 := keepN hK hk3
    generalize pI (Lib.trimPrefix s (sgn (k : Int))) = p at HG
    go_wp2_with (go_at_call 38; refine (offset_at (k : Int) o _ ho).mono ?_; rintro e w4 ⟨rfl, rfl⟩)
    refine bodyPost_ret (v := .agg #[.int .i64 (k : Int), .int .i64 (wrap64 (p + o))]) ?_ rfl ⟨by rw [HG.out, ho.out, w64_w], (hK3.setCell (fun h => by simp at h) _).setCell (fun h => by simp at h) _⟩
    simp [results, Tryd.results35, go_sem, c0, c1]

/-- What Read answers. -/
def rT (t : Int) (s : List UInt8) : Int := if knownB t = true ∧ (rd t s).isSome = true then t else 0
def rN (t : Int) (s : List UInt8) : Int := if knownB t = true ∧ (rd t s).isSome = true then (rd t s).getD 0 else 0
def rE (t : Int) (s : List UInt8) : Int := if knownB t = true then (if (rd t s).isSome = true then 0 else 21) else 20
theorem r_bad {t : Int} (s : List UInt8) (h : knownB t = false) : rT t s = 0 ∧ rN t s = 0 ∧ rE t s = 20 := by simp [rT, rN, rE, h]
theorem r_none {t : Int} {s : List UInt8} (h : knownB t = true) (hr : rd t s = none) : rT t s = 0 ∧ rN t s = 0 ∧ rE t s = 21 := by simp [rT, rN, rE, h, hr]
theorem r_some {t n : Int} {s : List UInt8} (h : knownB t = true) (hr : rd t s = some n) : rT t s = t ∧ rN t s = n ∧ rE t s = 0 := by simp [rT, rN, rE, h, hr]

set_option maxRecDepth 100000 in
set_option maxHeartbeats 4000000 in
theorem read_any (t : Int) (S : ByteArray) (s : List UInt8) (w : World) (hs : Hid (S.data.toList = s)) (hl : S.size ≤ 281474976710656) (h : Laid w) :
    Calls Tryd.prog 19 #[.int .i64 t, .string S] w fun e w' => e = .returned (.tuple #[.agg #[.int .i64 (rT t s), .int .i64 (rN t s)], .int .i64 (rE t s)]) ∧ Keep NoB w w' := by
  have hB := Blk.new w 35 #[.int .i64 0, .int .i64 0]
  have hK := (Keep.refl NoB w).alloc (.cells #[.int .i64 0, .int .i64 0] 35)
  have h1 := h.keep hK
  cases hkn : knownB t
  · obtain ⟨e1, e2, e3⟩ := r_bad s hkn
    rw [e1, e2, e3]
    clear e1 e2 e3
    go_enter Tryd.func19, Tryd.ntmps19
    go_wp2_with (go_at_call 12; refine (known_any _ _).mono ?_; rintro e w' ⟨rfl, rfl⟩)
    exact bodyPost_ret (v := .tuple #[.agg #[.int .i64 0, .int .i64 0], .int .i64 20]) (by simp [results, Tryd.results19, go_sem]) rfl ⟨rfl, (Keep.refl _ _).alloc _⟩
  · have hk' := (known_iff t).1 hkn
    obtain ⟨k, rfl⟩ := Int.eq_ofNat_of_zero_le (a := t) (by omega)
    have hk1 : 1 ≤ k := by omega
    have hk4 : k ≤ 4 := by omega
    have HG := Lib.hid (fun W (hW : Laid W) => guess_any k S s W hk1 hk4 hs hl hW)
    have HS := Lib.hid (fun W (hW : Laid W) => show_any (k : Int) (gN k s) W (gN_bounds _ _) hW)
    obtain ⟨g, hg⟩ : ∃ g, Hid (gN (k : Int) s = g) := ⟨_, rfl⟩
    rw [hg.out] at HG HS
    clear hk' hk1 hk4
    cases hr : rd (k : Int) s with
    | none =>
      obtain ⟨e1, e2, e3⟩ := r_none hkn hr
      rw [e1, e2, e3]
      have hq : (showL (k : Int) g == S.toList) = false := by
        rw [ByteArray.toList_eq, hs.out, beq_eq_false_iff_ne]
        intro e
        unfold rd at hr
        rw [hg.out, if_pos e] at hr
        cases hr
      clear e1 e2 e3 hr
      go_enter Tryd.func19, Tryd.ntmps19
      go_wp2_with (first | (go_at_call 12; refine (known_any _ _).mono ?_; rintro e w' ⟨rfl, rfl⟩) | fail)
      refine (HG.out _ h1).mono ?_
      rintro e w2 ⟨rfl, hk2⟩
      have b2 := hB.keep hk2 id
      have hz2 := b2.lt
      go_wp2_with fail
      have b3 := Blk.new w2 35 #[.int .i64 (k : Int), .int .i64 g]
      have hka := (Keep.refl NoB w2).alloc (.cells #[.int .i64 (k : Int), .int .i64 g] 35)
      refine (HS.out _ ((h1.keep hk2).keep hka)).mono ?_
      rintro e w4 ⟨rfl, hk4⟩
      have hK4 := keepN (keepN (keepN hK hk2) hka) hk4
      have b4 := (b2.keep hka id).keep hk4 id
      have b5 := b3.keep hk4 id
      have hz4 := b4.lt
      have hz5 := b5.lt
      have c0 : w4.cell? ⟨w.heap.size, 0, none⟩ = some (.int .i64 0) := b4.cell 0
      have c1 : w4.cell? ⟨w.heap.size, 1, none⟩ = some (.int .i64 0) := b4.cell 1
      have f0 := b4.frozen 0
      have f1 := b4.frozen 1
      have d0 : w4.cell? ⟨w2.heap.size, 0, none⟩ = some (.int .i64 (k : Int)) := b5.cell 0
      have d1 : w4.cell? ⟨w2.heap.size, 1, none⟩ = some (.int .i64 g) := b5.cell 1
      clear HG HS hB h1 b2 b3 b4 b5
      go_wp2
      refine bodyPost_ret (v := .tuple #[.agg #[.int .i64 0, .int .i64 0], .int .i64 21]) ?_ rfl ⟨rfl, (hK4.setCell (fun h => by simp at h) _).setCell (fun h => by simp at h) _⟩
      simp [results, Tryd.results19, go_sem, c0, c1]
    | some n =>
      obtain ⟨e1, e2, e3⟩ := r_some hkn hr
      rw [e1, e2, e3]
      have hgn : g = n := by
        unfold rd at hr
        split at hr
        · injection hr with hr
          exact hg.out.symm.trans hr
        · cases hr
      have hq : (showL (k : Int) g == S.toList) = true := by
        rw [ByteArray.toList_eq, hs.out, beq_iff_eq, hgn]
        exact (rd_some hkn hr).1
      subst hgn
      clear e1 e2 e3 hr
      go_enter Tryd.func19, Tryd.ntmps19
      go_wp2_with (first | (go_at_call 12; refine (known_any _ _).mono ?_; rintro e w' ⟨rfl, rfl⟩) | fail)
      refine (HG.out _ h1).mono ?_
      rintro e w2 ⟨rfl, hk2⟩
      have b2 := hB.keep hk2 id
      have hz2 := b2.lt
      go_wp2_with fail
      have b3 := Blk.new w2 35 #[.int .i64 (k : Int), .int .i64 g]
      have hka := (Keep.refl NoB w2).alloc (.cells #[.int .i64 (k : Int), .int .i64 g] 35)
      refine (HS.out _ ((h1.keep hk2).keep hka)).mono ?_
      rintro e w4 ⟨rfl, hk4⟩
      have hK4 := keepN (keepN (keepN hK hk2) hka) hk4
      have b4 := (b2.keep hka id).keep hk4 id
      have b5 := b3.keep hk4 id
      have hz4 := b4.lt
      have hz5 := b5.lt
      have c0 : w4.cell? ⟨w.heap.size, 0, none⟩ = some (.int .i64 0) := b4.cell 0
      have c1 : w4.cell? ⟨w.heap.size, 1, none⟩ = some (.int .i64 0) := b4.cell 1
      have f0 := b4.frozen 0
      have f1 := b4.frozen 1
      have d0 : w4.cell? ⟨w2.heap.size, 0, none⟩ = some (.int .i64 (k : Int)) := b5.cell 0
      have d1 : w4.cell? ⟨w2.heap.size, 1, none⟩ = some (.int .i64 g) := b5.cell 1
      clear HG HS hB h1 b2 b3 b4 b5
      go_wp2
      refine bodyPost_ret (v := .tuple #[.agg #[.int .i64 (k : Int), .int .i64 g], .int .i64 0]) ?_ rfl ⟨rfl, (hK4.setCell (fun h => by simp at h) _).setCell (fun h => by simp at h) _⟩
      simp [results, Tryd.results19, go_sem, c0, c1]

end Go.Proofs.YtkhbmbkjaeaamaaDoor
