/-
  ValueNames' walk. Conditions: the listed variables hold what their initialisers lay.
-/
import Derived.Test.YtkhbmbkjaeaamaaDoorWNamesU
namespace Go.Proofs.YtkhbmbkjaeaamaaDoor
open Go.RowKit

set_option maxRecDepth 100000 in
set_option maxHeartbeats 40000000 in
theorem names_any (w : World) (hL : LetAt w) (h : Laid w) :
    Calls Tryd.prog 5 #[] w fun e w' => e = .returned (.bool true) ∧ Keep NoB w w' := by
  have g := Keep.refl NoB w
  go_enter Tryd.func5, Tryd.ntmps5
  go_wp2_with (first
    | (go_at_call 23; refine (of_of _ _ _).mono ?_; rintro e v ⟨rfl, g'⟩; have g := keepN g g'; clear g')
    | (go_at_call 21; refine (show_any _ _ _ ⟨by decide, by decide⟩ (h.keep g)).mono ?_; (first | rw [sh1] | rw [sh2] | rw [sh3] | rw [sh4] | rw [sh5] | rw [sh6] | rw [sh7] | rw [sh8]); rintro e v ⟨rfl, g'⟩; have g := keepN g g'; clear g'))
  have hB := Blk.new v 9 litI
  have gB := g.alloc (.cells litI 9)
  generalize v.alloc (.cells litI 9) = wB at hB gB ⊢
  clear g
  go_loopw [2, 75] (fun bad i wr => ∃ k : Nat, k ≤ 10 ∧ i = .int .i64 k ∧ bad = .int .i64 k ∧ Keep NoB wB wr) (fun _ i _ => 10 - (intOf i).toNat)
  case atStart => exact ⟨0, Nat.zero_le _, rfl, rfl, Keep.refl _ _⟩
  case round =>
  obtain ⟨k, hk, rfl, rfl, hK⟩ := hrel
  by_cases hlt : k < 10
  · have hc : wr.cell? ⟨v.heap.size, k, none⟩ = some (.string (str (badI[k]'hlt))) := ((hB.keep hK id).cell k).trans (litI_at k hlt)
    have HR := Lib.hid (fun W hW => bad_read 1 badI badI_all (fun s hs => bad_short s (by simp [hs])) k hlt W hW)
    generalize str (badI[k]'hlt) = S at hc HR
    have h1 := h.keep (keepN gB hK)
    go_wp2_with (go_at_call 19; refine (HR.out _ h1).mono ?_; rintro e w1 ⟨rfl, hk1⟩)
    go_roundw
    case rel => first | exact ⟨k + 1, by omega, by go_num, by go_num, (keepN hK hk1).alloc _⟩ | ((repeat apply Exists.intro); exact ⟨⟨k + 1, by omega, by go_num, by go_num, (keepN hK hk1).alloc _⟩, rfl⟩)
    case measure => simp [intOf]; omega
  · obtain rfl : k = 10 := by omega
    have gw := keepN gB hK
    clear hB gB hK
    obtain ⟨wo, rfl⟩ : ∃ wo, wo = wr := ⟨_, rfl⟩
    go_wp2
    have hR := Blk.new wo 9 litR
    have gR := gw.alloc (.cells litR 9)
    generalize wo.alloc (.cells litR 9) = wR at hR gR ⊢
    go_loopw [2, 96] (fun bad i wr => ∃ k : Nat, k ≤ 9 ∧ i = .int .i64 k ∧ bad = .int .i64 (10 + (k : Int)) ∧ Keep NoB wR wr) (fun _ i _ => 9 - (intOf i).toNat)
    case atStart => exact ⟨0, Nat.zero_le _, rfl, rfl, Keep.refl _ _⟩
    case round =>
    obtain ⟨k, hk, rfl, rfl, hK⟩ := hrel
    by_cases hlt : k < 9
    · have hc : wr.cell? ⟨wo.heap.size, k, none⟩ = some (.string (str (badR[k]'hlt))) := ((hR.keep hK id).cell k).trans (litR_at k hlt)
      have HR := Lib.hid (fun W hW => bad_read 2 badR badR_all (fun s hs => bad_short s (by simp [hs])) k hlt W hW)
      generalize str (badR[k]'hlt) = S at hc HR
      have h1 := h.keep (keepN gR hK)
      go_wp2_with (go_at_call 19; refine (HR.out _ h1).mono ?_; rintro e w1 ⟨rfl, hk1⟩)
      go_roundw
      case rel => first | exact ⟨k + 1, by omega, by go_num, by go_num, (keepN hK hk1).alloc _⟩ | ((repeat apply Exists.intro); exact ⟨⟨k + 1, by omega, by go_num, by go_num, (keepN hK hk1).alloc _⟩, rfl⟩)
      case measure => simp [intOf]; omega
    · obtain rfl : k = 9 := by omega
      have gw := keepN gR hK
      clear hR gR hK
      obtain ⟨wp, rfl⟩ : ∃ wp, wp = wr := ⟨_, rfl⟩
      go_wp2
      have hP := Blk.new wp 9 litP
      have gP := gw.alloc (.cells litP 9)
      generalize wp.alloc (.cells litP 9) = wP at hP gP ⊢
      go_loopw [2, 112] (fun bad i wr => ∃ k : Nat, k ≤ 5 ∧ i = .int .i64 k ∧ bad = .int .i64 (19 + (k : Int)) ∧ Keep NoB wP wr) (fun _ i _ => 5 - (intOf i).toNat)
      case atStart => exact ⟨0, Nat.zero_le _, rfl, rfl, Keep.refl _ _⟩
      case round =>
      obtain ⟨k, hk, rfl, rfl, hK⟩ := hrel
      by_cases hlt : k < 5
      · have hc : wr.cell? ⟨wp.heap.size, k, none⟩ = some (.string (str (badP[k]'hlt))) := ((hP.keep hK id).cell k).trans (litP_at k hlt)
        have HR := Lib.hid (fun W hW => bad_read 4 badP badP_all (fun s hs => bad_short s (by simp [hs])) k hlt W hW)
        generalize str (badP[k]'hlt) = S at hc HR
        have h1 := h.keep (keepN gP hK)
        go_wp2_with (go_at_call 19; refine (HR.out _ h1).mono ?_; rintro e w1 ⟨rfl, hk1⟩)
        go_roundw
        case rel => first | exact ⟨k + 1, by omega, by go_num, by go_num, (keepN hK hk1).alloc _⟩ | ((repeat apply Exists.intro); exact ⟨⟨k + 1, by omega, by go_num, by go_num, (keepN hK hk1).alloc _⟩, rfl⟩)
        case measure => simp [intOf]; omega
      · obtain rfl : k = 5 := by omega
        have g := keepN gP hK
        clear hP gP hK gw
        go_wp2_with fail
        refine (read1 _ (h.keep g)).mono ?_
        rintro e v1 ⟨rfl, k1⟩
        replace g := (keepN g k1).alloc (.cells #[.int .i64 0, .int .i64 0] 35)
        clear k1
        go_wp2_with fail
        generalize v1.alloc (.cells #[.int .i64 0, .int .i64 0] 35) = x1 at g ⊢
        refine (read2 _ (h.keep g)).mono ?_
        rintro e v2 ⟨rfl, k1⟩
        replace g := (keepN g k1).alloc (.cells #[.int .i64 0, .int .i64 0] 35)
        clear k1
        go_wp2_with fail
        generalize v2.alloc (.cells #[.int .i64 0, .int .i64 0] 35) = x2 at g ⊢
        refine (read3 _ (h.keep g)).mono ?_
        rintro e v3 ⟨rfl, k1⟩
        replace g := (keepN g k1).alloc (.cells #[.int .i64 3, .int .i64 9223372036854775807] 35)
        have hX := Blk.new v3 35 #[.int .i64 3, .int .i64 9223372036854775807]
        clear k1
        go_wp2_with fail
        generalize v3.alloc (.cells #[.int .i64 3, .int .i64 9223372036854775807] 35) = x3 at g hX ⊢
        refine (read4 _ (h.keep g)).mono ?_
        rintro e v4 ⟨rfl, k1⟩
        replace g := (keepN g k1).alloc (.cells #[.int .i64 4, .int .i64 0] 35)
        replace hX := (hX.keep k1 id).alloc (.cells #[.int .i64 4, .int .i64 0] 35)
        have hY := Blk.new v4 35 #[.int .i64 4, .int .i64 0]
        clear k1
        go_wp2_with fail
        generalize v4.alloc (.cells #[.int .i64 4, .int .i64 0] 35) = x4 at g hX hY ⊢
        refine (repeatF 1024 (by omega) _).mono ?_
        rintro e v5 ⟨rfl, k1⟩
        replace g := keepN g k1
        replace hX := hX.keep k1 id
        replace hY := hY.keep k1 id
        clear k1
        have g5s := g.size
        obtain ⟨e1, e2, e3, e4⟩ := many_types
        have hF := many_a.1
        have HT := Lib.hid (fun W hW => types_any (str (manyF 1024)) (manyF 1024) W hW rfl (by show (manyF 1024).toArray.size ≤ _; rw [List.size_toArray, hF]; omega))
        unfold TypesR at HT
        rw [e1, e2] at HT
        generalize tL (manyF 1024) = lF at HT e3 e4
        have HF0 := Lib.hid (fun W => repeatF 1024 (by omega) W)
        generalize manyF 1024 = F at HT e4 HF0
        clear hF e1 e2
        have e3 := Lib.hid e3
        have e4 := Lib.hid e4
        go_wp2_with fail
        refine (HT.out _ (hL.keep g)).mono ?_
        rintro e v6 ⟨BF, dF, rfl, hO, k1⟩
        replace g := keepN g k1
        replace hX := hX.keep k1 id
        replace hY := hY.keep k1 id
        clear k1
        have hO : Own v6 3 1 (Fresh w) (.slice BF 1024 dF) 1024 (ivs lF) := hO.mono (fun k hk _ => Nat.le_trans g5s hk)
        go_wp2_with fail
        refine (repeatF 1025 (by omega) _).mono ?_
        rintro e v7 ⟨rfl, k1⟩
        replace g := keepN g k1
        replace hX := hX.keep k1 id
        replace hY := hY.keep k1 id
        replace hO := hO.keepN k1
        clear k1
        have HT2 := Lib.hid (fun W hW => types_any (str (manyF 1025)) (manyF 1025) W hW rfl (by show (manyF 1025).toArray.size ≤ _; rw [List.size_toArray, many_b]; omega))
        unfold TypesR at HT2
        rw [types_b.1, types_b.2] at HT2
        generalize manyF 1025 = F2 at HT2
        go_wp2_with fail
        refine (HT2.out _ (hL.keep g)).mono ?_
        rintro e v8 ⟨B8, d8, rfl, -, k1⟩
        replace g := keepN g k1
        replace hX := hX.keep k1 id
        replace hY := hY.keep k1 id
        replace hO := hO.keepN k1
        clear k1
        have HT3 := Lib.hid (fun W hW => types_any { data := #[] } [] W hW rfl (by decide))
        unfold TypesR at HT3
        rw [types_c.1, types_c.2] at HT3
        go_wp2_with fail
        refine (HT3.out _ (hL.keep g)).mono ?_
        rintro e v9 ⟨B9, d9, rfl, -, k1⟩
        replace g := keepN g k1
        replace hX := hX.keep k1 id
        replace hY := hY.keep k1 id
        replace hO := hO.keepN k1
        clear k1 HT HT2 HT3
        go_wp2_with fail
        have k1 := (Keep.refl NoB v9).alloc (.cells #[.int .i64 1, .int .i64 9] 3)
        have hR := rd_two v9 (.int .i64 1) (.int .i64 9) 3
        generalize v9.alloc (.cells #[.int .i64 1, .int .i64 9] 3) = x9 at k1 hR ⊢
        refine (zeros_a _ _ hR).mono ?_
        rintro e v10 ⟨rfl, k2⟩
        have k1 := keepN k1 k2
        replace g := keepN g k1
        replace hX := hX.keep k1 id
        replace hY := hY.keep k1 id
        replace hO := hO.keepN k1
        clear k1 k2 hR
        go_wp2_with fail
        have k1 := (Keep.refl NoB v10).alloc (.cells #[.int .i64 4, .int .i64 1] 3)
        have hR := rd_two v10 (.int .i64 4) (.int .i64 1) 3
        generalize v10.alloc (.cells #[.int .i64 4, .int .i64 1] 3) = x10 at k1 hR ⊢
        refine (zeros_b _ _ hR).mono ?_
        rintro e v11 ⟨C, dC, rfl, hRZ, k2⟩
        have k1 := keepN k1 k2
        replace g := keepN g k1
        replace hX := hX.keep k1 id
        replace hY := hY.keep k1 id
        replace hO := hO.keepN k1
        clear k1 k2 hR
        go_wp2_with fail
        refine wp_region_mix ((0, false) :: (1, false) :: (2, false) :: (3, false) :: (4, false) :: (5, false) :: (6, false) :: (7, false) :: (8, false) :: (9, false) :: (10, false) :: (11, false) :: (12, false) :: (13, false) :: (14, false) :: (15, false) :: (16, false) :: (17, false) :: (18, false) :: (19, false) :: (20, false) :: (21, false) :: (22, false) :: (23, false) :: (24, false) :: (25, false) :: (26, false) :: (27, false) :: (28, false) :: (29, false) :: (30, false) :: (31, false) :: (32, false) :: (33, false) :: (34, false) :: (35, false) :: (36, false) :: (37, false) :: (38, false) :: (39, false) :: (40, false) :: (41, false) :: (42, false) :: (43, false) :: (44, false) :: (45, false) :: (46, false) :: (47, false) :: (48, false) :: (49, false) :: (50, false) :: (51, false) :: (52, false) :: (53, false) :: (54, false) :: (55, false) :: (56, false) :: (57, false) :: (58, false) :: (59, false) :: (60, false) :: (61, false) :: []) (fun w' => Keep NoB v11 w') (by kernel_rfl) (by kernel_rfl) (by rfl) (by kernel_rfl) (stable_keep v11) (Keep.refl NoB v11).drew ?_
        repeat
          (refine wpM_step rfl rfl rfl (by rfl) (by rfl) ?_
           apply Exists.intro
           refine ⟨fun n K hK => ?_, ?_, ?_⟩
           · have qx0 : ∀ m : KW n.w, m.w.cell? ⟨v3.heap.size, 0, none⟩ = some (.int .i64 3) := fun m => (hX.keep (keepN n.has m.keep) id).cell 0
             have qx1 : ∀ m : KW n.w, m.w.cell? ⟨v3.heap.size, 1, none⟩ = some (.int .i64 9223372036854775807) := fun m => (hX.keep (keepN n.has m.keep) id).cell 1
             have qy0 : ∀ m : KW n.w, m.w.cell? ⟨v4.heap.size, 0, none⟩ = some (.int .i64 4) := fun m => (hY.keep (keepN n.has m.keep) id).cell 0
             have qy1 : ∀ m : KW n.w, m.w.cell? ⟨v4.heap.size, 1, none⟩ = some (.int .i64 0) := fun m => (hY.keep (keepN n.has m.keep) id).cell 1
             go_big_quiet_op
             first
               | exact hK _ rfl
               | (apply Exists.intro; refine ⟨fun m => ?_, ?_⟩; go_at_call 23; exact kept_of (of_of _ _ _); exact hK _ rfl)
           · kernel_rfl)
        refine wpM_make rfl rfl (by rfl) (fun H => .slice (some ⟨H, 0, none⟩) 2 2) (.cells #[.int .i64 4, .int .i64 0, .int .i64 1, .int .i64 0] 35) (fun W => ?_) (fun gz => ?_)
        · go_simp
        simp only [Act.put, List.setIfInBounds_toArray, List.set_cons_zero, List.set_cons_succ]
        repeat
          (refine wpM_step rfl rfl rfl (by rfl) (by rfl) ?_
           apply Exists.intro
           refine ⟨fun n K hK => ?_, ?_, ?_⟩
           · go_big_quiet_op
             first
               | exact hK _ rfl
               | (apply Exists.intro; refine ⟨fun m => ?_, ?_⟩; go_at_call 26; exact kept_of (same_true _ _ _ _ _ [(4, 0), (1, 0)] _ (hRZ.keepN (keepN n.has.1 m.keep)) (rd_blk (Blk.keep (t := 35) n.has.2 m.keep id) rfl) rfl (by omega)); exact hK _ rfl)
           · kernel_rfl)
        refine wpM_nil (fun n => ?_)
        have k1 := n.has.1
        generalize n.w = x11 at k1 ⊢
        replace g := keepN g k1
        replace hO := hO.keepN k1
        clear k1 hX hY hRZ
        go_wp2_with fail
        refine (of_of _ _ _).mono ?_
        rintro e y1 ⟨rfl, k1⟩
        replace g := keepN g k1
        replace hO := hO.keepN k1
        clear k1
        go_wp2_with fail
        refine (nil_any _ _ _).mono ?_
        rw [nl1]
        rintro e y2 ⟨rfl, k1⟩
        replace g := keepN g k1
        replace hO := hO.keepN k1
        clear k1
        go_wp2_with fail
        refine (of_of _ _ _).mono ?_
        rintro e y3 ⟨rfl, k1⟩
        replace g := keepN g k1
        replace hO := hO.keepN k1
        clear k1
        go_wp2_with fail
        refine (nil_any _ _ _).mono ?_
        rw [nl2]
        rintro e y4 ⟨rfl, k1⟩
        replace g := keepN g k1
        replace hO := hO.keepN k1
        clear k1
        go_wp2_with fail
        refine (of_of _ _ _).mono ?_
        rintro e y5 ⟨rfl, k1⟩
        replace g := keepN g k1
        replace hO := hO.keepN k1
        clear k1
        go_wp2_with fail
        refine (nil_any _ _ _).mono ?_
        rw [nl3]
        rintro e y6 ⟨rfl, k1⟩
        replace g := keepN g k1
        replace hO := hO.keepN k1
        clear k1
        go_wp2_with fail
        refine (of_of _ _ _).mono ?_
        rintro e y7 ⟨rfl, k1⟩
        replace g := keepN g k1
        replace hO := hO.keepN k1
        clear k1
        go_wp2_with fail
        refine (nil_any _ _ _).mono ?_
        rw [nl4]
        rintro e y8 ⟨rfl, k1⟩
        replace g := keepN g k1
        replace hO := hO.keepN k1
        clear k1
        go_wp2_with fail
        refine (of_of _ _ _).mono ?_
        rintro e y9 ⟨rfl, k1⟩
        replace g := keepN g k1
        replace hO := hO.keepN k1
        clear k1
        go_wp2_with fail
        refine (nil_any _ _ _).mono ?_
        rw [nl5]
        rintro e y10 ⟨rfl, k1⟩
        replace g := keepN g k1
        replace hO := hO.keepN k1
        clear k1
        have hI := Blk.new y10 3 #[.int .i64 1, .int .i64 2]
        replace g := g.alloc (.cells #[.int .i64 1, .int .i64 2] 3)
        replace hO := hO.keepN ((Keep.refl NoB y10).alloc (.cells #[.int .i64 1, .int .i64 2] 3))
        go_wp2_with fail
        generalize y10.alloc (.cells #[.int .i64 1, .int .i64 2] 3) = z0 at hI g hO ⊢
        refine (of_of _ _ _).mono ?_
        rintro e z1 ⟨rfl, k1⟩
        replace g := keepN g k1
        replace hO := hO.keepN k1
        replace hI := hI.keep k1 id
        clear k1
        go_wp2_with fail
        refine (of_of _ _ _).mono ?_
        rintro e z2 ⟨rfl, k1⟩
        replace g := keepN g k1
        replace hO := hO.keepN k1
        replace hI := hI.keep k1 id
        clear k1
        have hV := Blk.new z2 35 #[.int .i64 1, .int .i64 (-1), .int .i64 2, .int .i64 0]
        replace g := g.alloc (.cells #[.int .i64 1, .int .i64 (-1), .int .i64 2, .int .i64 0] 35)
        replace hO := hO.keepN ((Keep.refl NoB z2).alloc (.cells #[.int .i64 1, .int .i64 (-1), .int .i64 2, .int .i64 0] 35))
        replace hI := hI.alloc (.cells #[.int .i64 1, .int .i64 (-1), .int .i64 2, .int .i64 0] 35)
        go_wp2_with fail
        generalize z2.alloc (.cells #[.int .i64 1, .int .i64 (-1), .int .i64 2, .int .i64 0] 35) = z3 at hI hV g hO ⊢
        refine (fits_cl _ _ 2 2 _ _ [1, 2] [(1, -1), (2, 0)] _ _ (rd_blk hI rfl) (rd_blk hV rfl) rfl rfl (by omega) (by omega) ft1).mono ?_
        rintro e y11 ⟨rfl, k1⟩
        replace g := keepN g k1
        replace hO := hO.keepN k1
        clear k1 hI hV
        have hI := Blk.new y11 3 #[.int .i64 1, .int .i64 2]
        replace g := g.alloc (.cells #[.int .i64 1, .int .i64 2] 3)
        replace hO := hO.keepN ((Keep.refl NoB y11).alloc (.cells #[.int .i64 1, .int .i64 2] 3))
        go_wp2_with fail
        generalize y11.alloc (.cells #[.int .i64 1, .int .i64 2] 3) = z0 at hI g hO ⊢
        refine (of_of _ _ _).mono ?_
        rintro e z1 ⟨rfl, k1⟩
        replace g := keepN g k1
        replace hO := hO.keepN k1
        replace hI := hI.keep k1 id
        clear k1
        go_wp2_with fail
        refine (of_of _ _ _).mono ?_
        rintro e z2 ⟨rfl, k1⟩
        replace g := keepN g k1
        replace hO := hO.keepN k1
        replace hI := hI.keep k1 id
        clear k1
        have hV := Blk.new z2 35 #[.int .i64 1, .int .i64 (-1), .int .i64 2, .int .i64 (-1)]
        replace g := g.alloc (.cells #[.int .i64 1, .int .i64 (-1), .int .i64 2, .int .i64 (-1)] 35)
        replace hO := hO.keepN ((Keep.refl NoB z2).alloc (.cells #[.int .i64 1, .int .i64 (-1), .int .i64 2, .int .i64 (-1)] 35))
        replace hI := hI.alloc (.cells #[.int .i64 1, .int .i64 (-1), .int .i64 2, .int .i64 (-1)] 35)
        go_wp2_with fail
        generalize z2.alloc (.cells #[.int .i64 1, .int .i64 (-1), .int .i64 2, .int .i64 (-1)] 35) = z3 at hI hV g hO ⊢
        refine (fits_cl _ _ 2 2 _ _ [1, 2] [(1, -1), (2, -1)] _ _ (rd_blk hI rfl) (rd_blk hV rfl) rfl rfl (by omega) (by omega) ft2).mono ?_
        rintro e y12 ⟨rfl, k1⟩
        replace g := keepN g k1
        replace hO := hO.keepN k1
        clear k1 hI hV
        have hI := Blk.new y12 3 #[.int .i64 1]
        replace g := g.alloc (.cells #[.int .i64 1] 3)
        replace hO := hO.keepN ((Keep.refl NoB y12).alloc (.cells #[.int .i64 1] 3))
        go_wp2_with fail
        generalize y12.alloc (.cells #[.int .i64 1] 3) = z0 at hI g hO ⊢
        refine (fits_cl _ _ 1 0 _ _ [1] [] _ _ (rd_blk hI rfl) (Rd.none_ _ _) rfl rfl (by omega) (by omega) ft3).mono ?_
        rintro e yf ⟨rfl, k1⟩
        replace g := keepN g k1
        replace hO := hO.keepN k1
        clear k1 hI
        go_wp2_with fail
        refine (fits_cl _ _ 0 0 _ _ [] [] _ _ (Rd.none_ _ _) (Rd.none_ _ _) rfl rfl (by omega) (by omega) ft4).mono ?_
        rintro e yg ⟨rfl, k1⟩
        replace g := keepN g k1
        replace hO := hO.keepN k1
        clear k1
        go_wp2_with fail
        refine (letter_any _ _ (hL.keep g)).mono ?_
        rw [lt0]
        rintro e yh ⟨rfl, rfl⟩
        go_wp2_with fail
        refine (letter_any _ _ (hL.keep g)).mono ?_
        rw [lt4]
        rintro e yh ⟨rfl, rfl⟩
        have hmk : ∀ w, (Instr.makeSlice 22 (.int .i64 1) (.int .i64 1)).run Tryd.prog w = .ok (.slice (some ⟨w.heap.size, 0, none⟩) 1 1) (w.alloc (.cells #[.int .i64 0] 3)) := fun _ => by kernel_rfl
        have hI := Blk.new yg 3 #[.int .i64 0]
        replace g := g.alloc (.cells #[.int .i64 0] 3)
        replace hO := hO.keepN ((Keep.refl NoB yg).alloc (.cells #[.int .i64 0] 3))
        go_wp2_with fail
        generalize yg.alloc (.cells #[.int .i64 0] 3) = z0 at hI g hO ⊢
        have HX := text_any _ [0] 1 1 z0 (hL.keep g) (rd_blk hI rfl) rfl (by omega)
        rw [tx0] at HX
        refine HX.mono ?_
        rintro e yi ⟨rfl, k1⟩
        replace g := keepN g k1
        replace hO := hO.keepN k1
        clear k1 hI hmk
        go_wp2_with fail
        obtain ⟨_, _, hv, _, _, hRF, -⟩ := hO.form
        injection hv with hv1 _ hv2
        subst hv1 hv2
        have HX := text_any BF lF 1024 dF yi (hL.keep g) hRF e3 (by omega)
        rw [e4.out] at HX
        refine HX.mono ?_
        rintro e yj ⟨rfl, k1⟩
        replace g := keepN g k1
        replace hO := hO.keepN k1
        clear k1 hRF
        go_wp2_with fail
        refine (HF0.out _).mono ?_
        rintro e yk ⟨rfl, k1⟩
        replace g := keepN g k1
        replace hO := hO.keepN k1
        clear k1
        go_wp2_with fail
        obtain ⟨i0, hi, hz0, hz1, hz2⟩ := info_parts int_info
        replace hO := hO.keepN ((Keep.refl NoB yk).alloc (.cells #[.int .i64 1] 3))
        replace g := g.alloc (.cells #[.int .i64 1] 3)
        have hR1 := rd_one yk (.int .i64 1) 3
        refine wpList_append_rd_g _ (by rfl) (.tmp 291) (.tmp 292) 22 rfl 3 1 8 i0 _ Tryd.underlying22 hi hz0 hz1 hz2 rfl (by decide) (.slice BF 1024 dF) 1024 (ivs lF) (some ⟨yk.heap.size, 0, none⟩) 1 1 [.int .i64 1] rfl hO.1 rfl hR1 rfl (ivs_one [1]) (by unfold maxLen; omega) (by omega) ?_
        intro A2 c2 yl hrow hgr _
        replace g := g.grown hgr (fun q e hq => by have : w.heap.size ≤ q := hO.2 q e; omega)
        have hO2 : Own yl 3 1 (fun _ => True) (.slice A2 1025 c2) 1025 (ivs lF ++ [.int .i64 1]) := ⟨hrow, fun _ _ => trivial⟩
        clear hO hR1 hrow hgr hi hz0 hz1 hz2
        obtain ⟨_, _, hv, _, _, hRF, -⟩ := hO2.form
        injection hv with hv1 _ hv2
        subst hv1 hv2
        have hl5 : (lF ++ [1]).length = 1025 := by rw [List.length_append, e3.out]; rfl
        have HX := text_any A2 (lF ++ [1]) 1025 c2 yl (hL.keep g) (by rw [show ivs (lF ++ [1]) = ivs lF ++ [.int .i64 1] by simp]; exact hRF) hl5 (by omega)
        rw [txt_long (by rw [hl5]; omega)] at HX
        clear hO2 hRF hl5
        go_wp2_with fail
        refine HX.mono ?_
        rintro e ym ⟨rfl, k1⟩
        replace g := keepN g k1
        clear k1 HX
        go_wp2_with fail
        refine (alive_any _ (hL.keep g) (h.keep g)).mono ?_
        rintro e yn ⟨rfl, k1⟩
        replace g := keepN g k1
        go_wp2
        go_ret
        exact ⟨rfl, g⟩

end Go.Proofs.YtkhbmbkjaeaamaaDoor
