/-
  ValueForms' walk: whatever value, types and values, the law returns true. Conditions: the lists lie in memory.
-/
import Derived.Test.YtkhbmbkjaeaamaaWFormsU
import Derived.Test.YtkhbmbkjaeaamaaWRFits
import Derived.Deep.RegionWith
namespace Go.Proofs.Ytkhbmbkjaeaamaa
open Go.RowKit

set_option maxRecDepth 100000 in
set_option maxHeartbeats 40000000 in
theorem forms_known (w : World) (t n : Int) (A B : Option Addr) (l : List Int) (x : List (Int × Int)) (nl nx c d : Nat) (ha : Rd w A (ivs l)) (hb : Rd w B (vvs x)) (hl : Hid (l.length = nl)) (hx : Hid (x.length = nx))
    (hg1 : nl ≤ 2000) (hg2 : nx ≤ 2000) (hkn : knownB t = true) :
    Calls Try.prog 3 #[.agg #[.int .i64 t, .int .i64 n], .slice A nl c, .slice B nx d] w fun e w' => e = .returned (.bool true) ∧ Keep NoB w w' := by
  have hk0 := (Keep.refl NoB w).alloc (.cells #[.int .i64 t, .int .i64 n] 23)
  obtain ⟨i0, hi, hz0, hz1, hz2⟩ := info_parts int_info
  obtain ⟨j0, hj, hy0, hy1, hy2⟩ := info_parts val_info
  go_enter Try.func3, Try.ntmps3
  go_wp2_with fail
  refine (great_no _ A B nl nx c d _ (by decide) hg1 hg2).mono ?_
  rintro e w' ⟨rfl, rfl⟩
  have hb0 := Blk.new w 23 #[.int .i64 t, .int .i64 n]
  generalize w.alloc (.cells #[.int .i64 t, .int .i64 n] 23) = w0 at hk0 hb0 ⊢
  have ha0 := ha.keepN hk0
  have hc0 := hb.keepN hk0
  go_wp2_with (first
    | (at_builtin; refine wpList_append_rd _ rfl (.tmp 22) (.tmp 23) _ rfl 3 1 8 i0 _ Try.underlying24 hi hz0 hz1 hz2 rfl (by decide) _ 0 _ A nl c (ivs l) rfl (World.ownsRow_made (e := 3) (size := 1) (base := 0) w0 #[] 0 (Nat.zero_le _) (Nat.zero_le _) rfl) rfl (ha0.keepN ((Keep.refl NoB w0).alloc _)) (by rw [List.length_map, hl.out]; omega) (ivs_one _) (by unfold maxLen; omega) (by omega) ?_; intro A1 c1 w1 hrow1 hg1' hv1; rw [List.nil_append] at hrow1; obtain ⟨hO1, hK1⟩ := own_after (w := w0) (fun g e => by cases e; exact Nat.le_refl _) ((Keep.refl NoB w0).alloc _) hg1' hv1 hrow1; clear hrow1 hg1' hv1; have hc1 := hc0.keepN hK1)
    | (at_builtin; refine wpList_append_rd _ rfl (.tmp 25) (.tmp 26) _ rfl 23 2 16 j0 _ Try.underlying25 hj hy0 hy1 hy2 rfl (by decide) _ 0 _ B nx d (vvs x) rfl (World.ownsRow_made (e := 23) (size := 2) (base := 0) w1 #[] 0 (Nat.zero_le _) (Nat.zero_le _) rfl) rfl (hc1.keepN ((Keep.refl NoB w1).alloc _)) (by rw [vvs_length, hx.out]) (vvs_one _) (by unfold maxLen; omega) (by omega) ?_; intro A2 c2 w2 hrow2 hg2' hv2; rw [List.nil_append] at hrow2; obtain ⟨hO2, hK2⟩ := own_after (w := w1) (fun g e => by cases e; exact Nat.le_refl _) ((Keep.refl NoB w1).alloc _) hg2' hv2 hrow2; clear hrow2 hg2' hv2)
    | fail)
  obtain ⟨_, _, eA1, -, -, hR1, -⟩ := hO1.form
  cases eA1
  have hk1 := keepN hk0 hK1
  have hk2 := keepN hk1 hK2
  have ho2 := hO1.keepN hK2
  have hr1 := hR1.keepN hK2
  obtain ⟨_, _, eA2, -, -, hR2, -⟩ := hO2.form
  cases eA2
  have hb2 := hb0.keep (keepN hK1 hK2) id
  rw [Nat.zero_add] at *
  refine (zeros_u A1 l nl c1 _ hr1 hl (by omega)).mono ?_
  rintro e w3 ⟨A3, c3, rfl, hO3, hK3⟩
  go_wp2_with fail
  refine (rzeros_u A l nl c _ (ha.keepN (keepN hk2 hK3)) hl (by omega)).mono ?_
  rintro e w4 ⟨A4, c4, rfl, hO4, hK4⟩
  have hk4 := keepN (keepN hk2 hK3) hK4
  have hb4 := hb2.keep (keepN hK3 hK4) id
  have hz4 := hb4.lt
  have b0 : w4.cell? ⟨w.heap.size, 0, none⟩ = some (.int .i64 t) := hb4.cell 0
  have b1 : w4.cell? ⟨w.heap.size, 1, none⟩ = some (.int .i64 n) := hb4.cell 1
  go_wp2_with fail
  refine (zero_ok t _ hkn).mono ?_
  rintro e w5 ⟨rfl, hK5⟩
  have hb5 := hb4.keep hK5 id
  have hz5 := hb5.lt
  clear b0 b1
  have b0 : w5.cell? ⟨w.heap.size, 0, none⟩ = some (.int .i64 t) := hb5.cell 0
  have b1 : w5.cell? ⟨w.heap.size, 1, none⟩ = some (.int .i64 n) := hb5.cell 1
  go_wp2_with (go_at_call 8; refine (rknown_any _ _).mono ?_; rintro e w' ⟨rfl, rfl⟩)
  have hb6 := (hb5.alloc (.cells #[.int .i64 t, .int .i64 0] 23)).alloc (.cells #[.int .i64 t, .int .i64 0] 23)
  have hB6 := (Blk.new w5 23 #[.int .i64 t, .int .i64 0]).alloc (.cells #[.int .i64 t, .int .i64 0] 23)
  have hC6 := Blk.new (w5.alloc (.cells #[.int .i64 t, .int .i64 0] 23)) 23 #[.int .i64 t, .int .i64 0]
  rw [World.size_alloc] at hC6
  have hk6 := ((keepN hk4 hK5).alloc (.cells #[.int .i64 t, .int .i64 0] 23)).alloc (.cells #[.int .i64 t, .int .i64 0] 23)
  have hk26 := ((keepN (keepN hK3 hK4) hK5).alloc (.cells #[.int .i64 t, .int .i64 0] 23)).alloc (.cells #[.int .i64 t, .int .i64 0] 23)
  have hk36 := ((keepN hK4 hK5).alloc (.cells #[.int .i64 t, .int .i64 0] 23)).alloc (.cells #[.int .i64 t, .int .i64 0] 23)
  have hk46 := (hK5.alloc (.cells #[.int .i64 t, .int .i64 0] 23)).alloc (.cells #[.int .i64 t, .int .i64 0] 23)
  generalize (w5.alloc (.cells #[.int .i64 t, .int .i64 0] 23)).alloc (.cells #[.int .i64 t, .int .i64 0] 23) = w6 at hb6 hB6 hC6 hk6 hk26 hk36 hk46 ⊢
  refine (of_any A2 x nx c2 _ (hR2.keepN hk26) hx (by omega)).mono ?_
  rintro e w7 ⟨hK7, A7, c7, rfl, hO7⟩
  have hk7 := keepN hk6 hK7
  have hb7 := hb6.keep hK7 id
  have hB7 := hB6.keep hK7 id
  have hC7 := hC6.keep hK7 id
  obtain ⟨_, _, eA7, -, -, hR7, -⟩ := hO7.form
  cases eA7
  clear b0 b1
  go_wp2_with fail
  have hB26 := keepN hk26 hK7
  have hxl : (ts x).length = nx := by rw [← hx.out]; simp [ts]
  have HXL := Lib.hid hxl
  clear hxl
  go_loopw [62] (fun i wr => ∃ k : Nat, k ≤ nx ∧ i = .int .i64 k ∧ Keep NoB w7 wr) (fun i _ => nx - (intOf i).toNat)
  case atStart => exact ⟨0, Nat.zero_le _, rfl, Keep.refl _ _⟩
  case round =>
    obtain ⟨k, hk, rfl, hK8⟩ := hrel
    by_cases hlt : k < nx
    · have hkx : k < x.length := by rw [hx.out]; exact hlt
      have hkt : k < (ts x).length := by rw [HXL.out]; exact hlt
      obtain ⟨g7, o7, rfl, q7⟩ := rdI_at hR7 (by omega)
      obtain ⟨gB, oB, rfl, qB⟩ := rdV_at hb (by omega)
      have e7 := hK8.cell (q7 k hkt) id
      have eB := (keepN hk7 hK8).cell (qB k hkx).1 id
      have hsame : (ts x)[k] = x[k].1 := by simp [ts]
      rw [hsame] at e7
      clear q7 qB hsame hR7 hb hc0 hc1
      generalize x[k] = y at e7 eB
      obtain ⟨y0, y1⟩ := y
      dsimp only at e7 eB
      go_wp2
      go_quiet (fail)
      go_wp2
      go_roundw
      case rel => exact ⟨k + 1, by omega, by go_num, hK8.drewN _⟩
      case measure => simp [intOf]; omega
    · have hd0 := (Keep.refl NoB wr).drew
      have hkr := keepN hk7 hK8
      have k2r := keepN hB26 hK8
      have k3r := keepN (keepN hk36 hK7) hK8
      have k4r := keepN (keepN hk46 hK7) hK8
      have hbr := hb7.keep hK8 id
      have hBr := hB7.keep hK8 id
      have hCr := hC7.keep hK8 id
      obtain ⟨_, _, eA3, -, -, hR3, -⟩ := hO3.form
      cases eA3
      obtain ⟨_, _, eA4, -, -, hR4, -⟩ := hO4.form
      cases eA4
      have r3 := hR3.keepN k3r
      have r4 := hR4.keepN k4r
      have r1 := hr1.keepN k2r
      have r2 := hR2.keepN k2r
      have ra := ha.keepN hkr
      have rb := hb.keepN hkr
      have HZ : Hid ((zL l).length = zN l nl) := by show _ = _; rw [zL_length, hl.out]
      have hzle : zN l nl ≤ nl := by unfold zN; split <;> omega
      obtain ⟨R, hR⟩ : ∃ R, Hid (R = fitsB l x) := ⟨_, rfl⟩
      have HQ : Hid (∀ w', Keep NoB wr w' → w'.cell? ⟨w.heap.size, 0, none⟩ = some (.int .i64 t) ∧ w'.cell? ⟨w.heap.size, 1, none⟩ = some (.int .i64 n) ∧ w'.cell? ⟨w5.heap.size, 0, none⟩ = some (.int .i64 t) ∧ w'.cell? ⟨w5.heap.size, 1, none⟩ = some (.int .i64 0) ∧ w'.cell? ⟨w5.heap.size + 1, 0, none⟩ = some (.int .i64 t) ∧ w'.cell? ⟨w5.heap.size + 1, 1, none⟩ = some (.int .i64 0)) :=
        fun w' hk' => ⟨(hbr.keep hk' id).cell 0, (hbr.keep hk' id).cell 1, (hBr.keep hk' id).cell 0, (hBr.keep hk' id).cell 1, (hCr.keep hk' id).cell 0, (hCr.keep hk' id).cell 1⟩
      clear hO1 hO2 hO3 hO4 hO7 ho2 hR1 hR2 hR3 hR4 hR7 hr1 ha hb ha0 hc0 hc1 hb0 hb2 hb4 hb5 hb6 hb7 hB6 hB7 hC6 hC7 hbr hBr hCr hk1 hk2 hk4 hk6 hk7 hk26 hk36 hk46 hB26 k2r k3r k4r hK1 hK2 hK3 hK4 hK5 hK7 hi hz0 hz1 hz2 hj hy0 hy1 hy2
      go_wp2
      simp only [List.append_eq, List.cons_append, List.nil_append]
      first
        | (go_region_held (fun w' => w'.cell? ⟨w.heap.size, 0, none⟩ = some (.int .i64 t) ∧ w'.cell? ⟨w.heap.size, 1, none⟩ = some (.int .i64 n) ∧ w'.cell? ⟨w5.heap.size, 0, none⟩ = some (.int .i64 t) ∧ w'.cell? ⟨w5.heap.size, 1, none⟩ = some (.int .i64 0) ∧ w'.cell? ⟨w5.heap.size + 1, 0, none⟩ = some (.int .i64 t) ∧ w'.cell? ⟨w5.heap.size + 1, 1, none⟩ = some (.int .i64 0))
            (first | exact HQ.out _ hd0 | exact HQ.out _ g1 | exact HQ.out _ g2 | exact HQ.out _ g3 | exact HQ.out _ g4 | exact HQ.out _ g5 | exact HQ.out _ g6 | exact HQ.out _ g7 | exact HQ.out _ g8 | exact HQ.out _ g9 | exact HQ.out _ g10)
            (first
              | (go_at_call 10; refine (check_any t n _).mono ?_; rintro e v1 ⟨rfl, g1'⟩; have g1 := keepN hd0 g1')
              | (go_at_call 11; refine (rcheck_any t n _).mono ?_; rintro e v2 ⟨rfl, g2'⟩; have g2 := keepN g1 g2')
              | (go_at_call 12; refine (nil_any t n _).mono ?_; rintro e v3 ⟨rfl, g3'⟩; have g3 := keepN g2 g3')
              | (go_at_call 13; refine (rnil_any t n _).mono ?_; rintro e v4 ⟨rfl, g4'⟩; have g4 := keepN g3 g4')
              | (go_at_call_of 14 (Value.slice A3 (zN l nl) c3); refine (same_any A3 A4 (zL l) (zL l) _ _ c3 c4 v4 (r3.keepN g4) (r4.keepN g4) HZ HZ (by omega) (by omega) true (by show _ = _; simp)).mono ?_; rintro e v5 ⟨rfl, g5'⟩; have g5 := keepN g4 g5')
              | (go_at_call 15; refine (fits_any A1 A2 l x _ _ c1 c2 v5 (r1.keepN g5) (r2.keepN g5) hl hx (by omega) (by omega) R hR).mono ?_; rintro e v6 ⟨rfl, g6'⟩; have g6 := keepN g5 g6')
              | (go_at_call 16; refine (rfits_any A B l x _ _ c d v6 (ra.keepN g6) (rb.keepN g6) hl hx (by omega) (by omega) R hR).mono ?_; rintro e v7 ⟨rfl, g7'⟩; have g7 := keepN g6 g7')
              | (go_at_call 17; refine (vint_any n _).mono ?_; rintro e v8 ⟨rfl, g8'⟩; have g8 := keepN g7 g8')
              | (go_at_call 18; refine (ints_any A1 A l l _ _ c1 c v8 (r1.keepN g8) (ra.keepN g8) hl hl (by omega) (by omega) true (by show _ = _; simp)).mono ?_; rintro e v9 ⟨rfl, g9'⟩; have g9 := keepN g8 g9')
              | (go_at_call_of 14 (Value.slice A2 nx c2); refine (same_any A2 B x x _ _ c2 d v9 (r2.keepN g9) (rb.keepN g9) hx hx (by omega) (by omega) true (by show _ = _; simp)).mono ?_; rintro e v10 ⟨rfl, g10'⟩; have g10 := keepN g9 g10')))
        | fail
      all_goals go_wp2
      all_goals go_ret
      all_goals exact ⟨rfl, keepN hkr g10⟩

set_option maxRecDepth 100000 in
set_option maxHeartbeats 40000000 in
theorem forms_unknown (w : World) (t n : Int) (A B : Option Addr) (l : List Int) (x : List (Int × Int)) (nl nx c d : Nat) (ha : Rd w A (ivs l)) (hb : Rd w B (vvs x)) (hl : Hid (l.length = nl)) (hx : Hid (x.length = nx))
    (hg1 : nl ≤ 2000) (hg2 : nx ≤ 2000) (hkn : knownB t = false) :
    Calls Try.prog 3 #[.agg #[.int .i64 t, .int .i64 n], .slice A nl c, .slice B nx d] w fun e w' => e = .returned (.bool true) ∧ Keep NoB w w' := by
  have hk0 := (Keep.refl NoB w).alloc (.cells #[.int .i64 t, .int .i64 n] 23)
  obtain ⟨i0, hi, hz0, hz1, hz2⟩ := info_parts int_info
  obtain ⟨j0, hj, hy0, hy1, hy2⟩ := info_parts val_info
  go_enter Try.func3, Try.ntmps3
  go_wp2_with fail
  refine (great_no _ A B nl nx c d _ (by decide) hg1 hg2).mono ?_
  rintro e w' ⟨rfl, rfl⟩
  have hb0 := Blk.new w 23 #[.int .i64 t, .int .i64 n]
  generalize w.alloc (.cells #[.int .i64 t, .int .i64 n] 23) = w0 at hk0 hb0 ⊢
  have ha0 := ha.keepN hk0
  have hc0 := hb.keepN hk0
  go_wp2_with (first
    | (at_builtin; refine wpList_append_rd _ rfl (.tmp 22) (.tmp 23) _ rfl 3 1 8 i0 _ Try.underlying24 hi hz0 hz1 hz2 rfl (by decide) _ 0 _ A nl c (ivs l) rfl (World.ownsRow_made (e := 3) (size := 1) (base := 0) w0 #[] 0 (Nat.zero_le _) (Nat.zero_le _) rfl) rfl (ha0.keepN ((Keep.refl NoB w0).alloc _)) (by rw [List.length_map, hl.out]; omega) (ivs_one _) (by unfold maxLen; omega) (by omega) ?_; intro A1 c1 w1 hrow1 hg1' hv1; rw [List.nil_append] at hrow1; obtain ⟨hO1, hK1⟩ := own_after (w := w0) (fun g e => by cases e; exact Nat.le_refl _) ((Keep.refl NoB w0).alloc _) hg1' hv1 hrow1; clear hrow1 hg1' hv1; have hc1 := hc0.keepN hK1)
    | (at_builtin; refine wpList_append_rd _ rfl (.tmp 25) (.tmp 26) _ rfl 23 2 16 j0 _ Try.underlying25 hj hy0 hy1 hy2 rfl (by decide) _ 0 _ B nx d (vvs x) rfl (World.ownsRow_made (e := 23) (size := 2) (base := 0) w1 #[] 0 (Nat.zero_le _) (Nat.zero_le _) rfl) rfl (hc1.keepN ((Keep.refl NoB w1).alloc _)) (by rw [vvs_length, hx.out]) (vvs_one _) (by unfold maxLen; omega) (by omega) ?_; intro A2 c2 w2 hrow2 hg2' hv2; rw [List.nil_append] at hrow2; obtain ⟨hO2, hK2⟩ := own_after (w := w1) (fun g e => by cases e; exact Nat.le_refl _) ((Keep.refl NoB w1).alloc _) hg2' hv2 hrow2; clear hrow2 hg2' hv2)
    | fail)
  obtain ⟨_, _, eA1, -, -, hR1, -⟩ := hO1.form
  cases eA1
  have hk1 := keepN hk0 hK1
  have hk2 := keepN hk1 hK2
  have ho2 := hO1.keepN hK2
  have hr1 := hR1.keepN hK2
  obtain ⟨_, _, eA2, -, -, hR2, -⟩ := hO2.form
  cases eA2
  have hb2 := hb0.keep (keepN hK1 hK2) id
  rw [Nat.zero_add] at *
  refine (zeros_u A1 l nl c1 _ hr1 hl (by omega)).mono ?_
  rintro e w3 ⟨A3, c3, rfl, hO3, hK3⟩
  go_wp2_with fail
  refine (rzeros_u A l nl c _ (ha.keepN (keepN hk2 hK3)) hl (by omega)).mono ?_
  rintro e w4 ⟨A4, c4, rfl, hO4, hK4⟩
  have hk4 := keepN (keepN hk2 hK3) hK4
  have hb4 := hb2.keep (keepN hK3 hK4) id
  have hz4 := hb4.lt
  have b0 : w4.cell? ⟨w.heap.size, 0, none⟩ = some (.int .i64 t) := hb4.cell 0
  have b1 : w4.cell? ⟨w.heap.size, 1, none⟩ = some (.int .i64 n) := hb4.cell 1
  go_wp2_with fail
  refine (zero_bad t _ hkn).mono ?_
  rintro e w5 ⟨rfl, hK5⟩
  have hb5 := hb4.keep hK5 id
  have hz5 := hb5.lt
  clear b0 b1
  have b0 : w5.cell? ⟨w.heap.size, 0, none⟩ = some (.int .i64 t) := hb5.cell 0
  have b1 : w5.cell? ⟨w.heap.size, 1, none⟩ = some (.int .i64 n) := hb5.cell 1
  go_wp2_with (go_at_call 8; refine (rknown_any _ _).mono ?_; rintro e w' ⟨rfl, rfl⟩)
  have hb6 := (hb5.alloc (.cells #[.int .i64 0, .int .i64 0] 23)).alloc (.cells #[.int .i64 0, .int .i64 0] 23)
  have hB6 := (Blk.new w5 23 #[.int .i64 0, .int .i64 0]).alloc (.cells #[.int .i64 0, .int .i64 0] 23)
  have hC6 := Blk.new (w5.alloc (.cells #[.int .i64 0, .int .i64 0] 23)) 23 #[.int .i64 0, .int .i64 0]
  rw [World.size_alloc] at hC6
  have hk6 := ((keepN hk4 hK5).alloc (.cells #[.int .i64 0, .int .i64 0] 23)).alloc (.cells #[.int .i64 0, .int .i64 0] 23)
  have hk26 := ((keepN (keepN hK3 hK4) hK5).alloc (.cells #[.int .i64 0, .int .i64 0] 23)).alloc (.cells #[.int .i64 0, .int .i64 0] 23)
  have hk36 := ((keepN hK4 hK5).alloc (.cells #[.int .i64 0, .int .i64 0] 23)).alloc (.cells #[.int .i64 0, .int .i64 0] 23)
  have hk46 := (hK5.alloc (.cells #[.int .i64 0, .int .i64 0] 23)).alloc (.cells #[.int .i64 0, .int .i64 0] 23)
  generalize (w5.alloc (.cells #[.int .i64 0, .int .i64 0] 23)).alloc (.cells #[.int .i64 0, .int .i64 0] 23) = w6 at hb6 hB6 hC6 hk6 hk26 hk36 hk46 ⊢
  refine (of_any A2 x nx c2 _ (hR2.keepN hk26) hx (by omega)).mono ?_
  rintro e w7 ⟨hK7, A7, c7, rfl, hO7⟩
  have hk7 := keepN hk6 hK7
  have hb7 := hb6.keep hK7 id
  have hB7 := hB6.keep hK7 id
  have hC7 := hC6.keep hK7 id
  obtain ⟨_, _, eA7, -, -, hR7, -⟩ := hO7.form
  cases eA7
  clear b0 b1
  go_wp2_with fail
  have hB26 := keepN hk26 hK7
  have hxl : (ts x).length = nx := by rw [← hx.out]; simp [ts]
  have HXL := Lib.hid hxl
  clear hxl
  go_loopw [62] (fun i wr => ∃ k : Nat, k ≤ nx ∧ i = .int .i64 k ∧ Keep NoB w7 wr) (fun i _ => nx - (intOf i).toNat)
  case atStart => exact ⟨0, Nat.zero_le _, rfl, Keep.refl _ _⟩
  case round =>
    obtain ⟨k, hk, rfl, hK8⟩ := hrel
    by_cases hlt : k < nx
    · have hkx : k < x.length := by rw [hx.out]; exact hlt
      have hkt : k < (ts x).length := by rw [HXL.out]; exact hlt
      obtain ⟨g7, o7, rfl, q7⟩ := rdI_at hR7 (by omega)
      obtain ⟨gB, oB, rfl, qB⟩ := rdV_at hb (by omega)
      have e7 := hK8.cell (q7 k hkt) id
      have eB := (keepN hk7 hK8).cell (qB k hkx).1 id
      have hsame : (ts x)[k] = x[k].1 := by simp [ts]
      rw [hsame] at e7
      clear q7 qB hsame hR7 hb hc0 hc1
      generalize x[k] = y at e7 eB
      obtain ⟨y0, y1⟩ := y
      dsimp only at e7 eB
      go_wp2
      go_quiet (fail)
      go_wp2
      go_roundw
      case rel => exact ⟨k + 1, by omega, by go_num, hK8.drewN _⟩
      case measure => simp [intOf]; omega
    · have hd0 := (Keep.refl NoB wr).drew
      have hkr := keepN hk7 hK8
      have k2r := keepN hB26 hK8
      have k3r := keepN (keepN hk36 hK7) hK8
      have k4r := keepN (keepN hk46 hK7) hK8
      have hbr := hb7.keep hK8 id
      have hBr := hB7.keep hK8 id
      have hCr := hC7.keep hK8 id
      obtain ⟨_, _, eA3, -, -, hR3, -⟩ := hO3.form
      cases eA3
      obtain ⟨_, _, eA4, -, -, hR4, -⟩ := hO4.form
      cases eA4
      have r3 := hR3.keepN k3r
      have r4 := hR4.keepN k4r
      have r1 := hr1.keepN k2r
      have r2 := hR2.keepN k2r
      have ra := ha.keepN hkr
      have rb := hb.keepN hkr
      have HZ : Hid ((zL l).length = zN l nl) := by show _ = _; rw [zL_length, hl.out]
      have hzle : zN l nl ≤ nl := by unfold zN; split <;> omega
      obtain ⟨R, hR⟩ : ∃ R, Hid (R = fitsB l x) := ⟨_, rfl⟩
      have HQ : Hid (∀ w', Keep NoB wr w' → w'.cell? ⟨w.heap.size, 0, none⟩ = some (.int .i64 t) ∧ w'.cell? ⟨w.heap.size, 1, none⟩ = some (.int .i64 n) ∧ w'.cell? ⟨w5.heap.size, 0, none⟩ = some (.int .i64 0) ∧ w'.cell? ⟨w5.heap.size, 1, none⟩ = some (.int .i64 0) ∧ w'.cell? ⟨w5.heap.size + 1, 0, none⟩ = some (.int .i64 0) ∧ w'.cell? ⟨w5.heap.size + 1, 1, none⟩ = some (.int .i64 0)) :=
        fun w' hk' => ⟨(hbr.keep hk' id).cell 0, (hbr.keep hk' id).cell 1, (hBr.keep hk' id).cell 0, (hBr.keep hk' id).cell 1, (hCr.keep hk' id).cell 0, (hCr.keep hk' id).cell 1⟩
      clear hO1 hO2 hO3 hO4 hO7 ho2 hR1 hR2 hR3 hR4 hR7 hr1 ha hb ha0 hc0 hc1 hb0 hb2 hb4 hb5 hb6 hb7 hB6 hB7 hC6 hC7 hbr hBr hCr hk1 hk2 hk4 hk6 hk7 hk26 hk36 hk46 hB26 k2r k3r k4r hK1 hK2 hK3 hK4 hK5 hK7 hi hz0 hz1 hz2 hj hy0 hy1 hy2
      go_wp2
      simp only [List.append_eq, List.cons_append, List.nil_append]
      first
        | (go_region_held (fun w' => w'.cell? ⟨w.heap.size, 0, none⟩ = some (.int .i64 t) ∧ w'.cell? ⟨w.heap.size, 1, none⟩ = some (.int .i64 n) ∧ w'.cell? ⟨w5.heap.size, 0, none⟩ = some (.int .i64 0) ∧ w'.cell? ⟨w5.heap.size, 1, none⟩ = some (.int .i64 0) ∧ w'.cell? ⟨w5.heap.size + 1, 0, none⟩ = some (.int .i64 0) ∧ w'.cell? ⟨w5.heap.size + 1, 1, none⟩ = some (.int .i64 0))
            (first | exact HQ.out _ hd0 | exact HQ.out _ g1 | exact HQ.out _ g2 | exact HQ.out _ g3 | exact HQ.out _ g4 | exact HQ.out _ g5 | exact HQ.out _ g6 | exact HQ.out _ g7 | exact HQ.out _ g8 | exact HQ.out _ g9 | exact HQ.out _ g10)
            (first
              | (go_at_call 10; refine (check_any t n _).mono ?_; rintro e v1 ⟨rfl, g1'⟩; have g1 := keepN hd0 g1')
              | (go_at_call 11; refine (rcheck_any t n _).mono ?_; rintro e v2 ⟨rfl, g2'⟩; have g2 := keepN g1 g2')
              | (go_at_call 12; refine (nil_any t n _).mono ?_; rintro e v3 ⟨rfl, g3'⟩; have g3 := keepN g2 g3')
              | (go_at_call 13; refine (rnil_any t n _).mono ?_; rintro e v4 ⟨rfl, g4'⟩; have g4 := keepN g3 g4')
              | (go_at_call_of 14 (Value.slice A3 (zN l nl) c3); refine (same_any A3 A4 (zL l) (zL l) _ _ c3 c4 v4 (r3.keepN g4) (r4.keepN g4) HZ HZ (by omega) (by omega) true (by show _ = _; simp)).mono ?_; rintro e v5 ⟨rfl, g5'⟩; have g5 := keepN g4 g5')
              | (go_at_call 15; refine (fits_any A1 A2 l x _ _ c1 c2 v5 (r1.keepN g5) (r2.keepN g5) hl hx (by omega) (by omega) R hR).mono ?_; rintro e v6 ⟨rfl, g6'⟩; have g6 := keepN g5 g6')
              | (go_at_call 16; refine (rfits_any A B l x _ _ c d v6 (ra.keepN g6) (rb.keepN g6) hl hx (by omega) (by omega) R hR).mono ?_; rintro e v7 ⟨rfl, g7'⟩; have g7 := keepN g6 g7')
              | (go_at_call 17; refine (vint_any n _).mono ?_; rintro e v8 ⟨rfl, g8'⟩; have g8 := keepN g7 g8')
              | (go_at_call 18; refine (ints_any A1 A l l _ _ c1 c v8 (r1.keepN g8) (ra.keepN g8) hl hl (by omega) (by omega) true (by show _ = _; simp)).mono ?_; rintro e v9 ⟨rfl, g9'⟩; have g9 := keepN g8 g9')
              | (go_at_call_of 14 (Value.slice A2 nx c2); refine (same_any A2 B x x _ _ c2 d v9 (r2.keepN g9) (rb.keepN g9) hx hx (by omega) (by omega) true (by show _ = _; simp)).mono ?_; rintro e v10 ⟨rfl, g10'⟩; have g10 := keepN g9 g10')))
        | fail
      all_goals go_wp2
      all_goals go_ret
      all_goals exact ⟨rfl, keepN hkr g10⟩

set_option maxRecDepth 100000 in
set_option maxHeartbeats 1000000 in
theorem forms_walk (w : World) (t n : Int) (A B : Option Addr) (l : List Int) (x : List (Int × Int)) (nl nx c d : Nat) (ha : Rd w A (ivs l)) (hb : Rd w B (vvs x)) (hl : Hid (l.length = nl)) (hx : Hid (x.length = nx))
    (h1 : nl ≤ 9223372036854775807) (h2 : nx ≤ 9223372036854775807) :
    Calls Try.prog 3 #[.agg #[.int .i64 t, .int .i64 n], .slice A nl c, .slice B nx d] w fun e w' => e = .returned (.bool true) ∧ Keep NoB w w' := by
  by_cases hg : nl ≤ 2000 ∧ nx ≤ 2000
  · cases hkn : knownB t
    · exact forms_unknown w t n A B l x nl nx c d ha hb hl hx hg.1 hg.2 hkn
    · exact forms_known w t n A B l x nl nx c d ha hb hl hx hg.1 hg.2 hkn
  · have hk0 := (Keep.refl NoB w).alloc (.cells #[.int .i64 t, .int .i64 n] 23)
    go_enter Try.func3, Try.ntmps3
    go_wp2_with fail
    refine (great_yes _ A B nl nx c d _ (fun h => hg h.2) h1 h2 (by decide)).mono ?_
    rintro e w' ⟨rfl, rfl⟩
    go_wp2
    go_ret
    exact ⟨rfl, hk0⟩

end Go.Proofs.Ytkhbmbkjaeaamaa
