/-
  OpcodeNames' walk: the examples of the chapter, all names and effects, bounds of operands, texts and bytes that are none. Conditions: the listed package-level variables hold what their initialisers lay.
-/
import Derived.Test.YtpkcjokkadfhcaaGreatDoorQONamesB
namespace Go.Proofs.YtpkcjokkadfhcaaGreatDoor.O
open Go.RowKit

theorem tri_cells (l : List (Int × Int × Int)) (w : World) (t : TypeId) (k : Nat) (hk : k < l.length) (v : World) (h : Keep NoB (w.alloc (.cells (tvs l).toArray t)) v) :
    v.cell? ⟨w.heap.size, k * 3, none⟩ = some (.int .i64 l[k].1) ∧ v.cell? ⟨w.heap.size, k * 3 + 1, none⟩ = some (.int .i64 l[k].2.1) ∧ v.cell? ⟨w.heap.size, k * 3 + 2, none⟩ = some (.int .i64 l[k].2.2) := by
  obtain ⟨h0, h1, h2⟩ := tvs_at l k hk
  have b := Blk.new w t (tvs l).toArray
  refine ⟨h.cell ?_ id, h.cell ?_ id, h.cell ?_ id⟩
  · rw [b.cell]; simpa using h0
  · rw [b.cell]; simpa using h1
  · rw [b.cell]; simpa using h2
theorem bad_at {k : Nat} (hk : k < badL.length) : okI badL[k].1 badL[k].2.1 badL[k].2.2 = false ∧ I64 badL[k].2.1 ∧ I64 badL[k].2.2 := by
  have h := List.all_eq_true.1 bad_all _ (List.getElem_mem hk)
  simp only [Bool.and_eq_true, Bool.not_eq_true', decide_eq_true_eq] at h
  exact ⟨h.1, ⟨h.2.1, h.2.2.1⟩, h.2.2.2.1, h.2.2.2.2⟩
theorem good_at {k : Nat} (hk : k < goodL.length) : okI goodL[k].1 goodL[k].2.1 goodL[k].2.2 = true := List.all_eq_true.1 good_all _ (List.getElem_mem hk)
section
variable (op a b : Int) (w : World)
theorem effect_bad (h : okI op a b = false) : Calls Tryz.prog 20 #[instV op a b] w fun e w' => ∃ A c n B d m, e = .returned (.tuple #[.slice A n c, .slice B m d, .bool false]) ∧ Keep NoB w w' := by
  have hf : fixedI op a b = false := by unfold fixedI; rw [h]; rfl
  refine (effect_any op a b w).mono ?_
  rintro e w' ⟨A, c, B, d, rfl, _, _, hk⟩
  rw [hf]
  exact ⟨A, c, _, B, d, _, rfl, hk⟩
theorem goes_bad (h : okI op a b = false) : Calls Tryz.prog 22 #[instV op a b] w fun e w' => e = .returned (.tuple #[.int .i64 (goesN op a b), .bool false]) ∧ Keep NoB w w' := by
  have hf : goesI op a b = false := by unfold goesI; rw [rowR_no h]; rfl
  have := goes_any op a b w
  rw [hf] at this
  exact this
theorem check_bad (h : okI op a b = false) : Calls Tryz.prog 14 #[instV op a b] w fun e w' => e = .returned (.int .i64 40) ∧ Keep NoB w w' := by
  have := check_any op a b w
  unfold chk at this
  rw [if_neg (by rw [h]; decide)] at this
  exact this
theorem bytes_bad (h : okI op a b = false) (ha : I64 a) (hb : I64 b) : Calls Tryz.prog 36 #[instV op a b] w fun e w' => e = .returned (.string ⟨#[]⟩) ∧ Keep NoB w w' := by
  have := bytes_any op a b w ha hb
  unfold encI at this
  rw [if_neg (by rw [h]; decide)] at this
  exact this
theorem show_bad (h : okI op a b = false) (ha : I64 a) (hb : I64 b) (hL : LaidO w) : Calls Tryz.prog 31 #[instV op a b] w fun e w' => e = .returned (.string ⟨#[]⟩) ∧ Keep NoB w w' := by
  have := show_any op a b w ha hb hL
  unfold showI at this
  rw [if_neg (by rw [h]; decide)] at this
  exact this
theorem ends_bad (h : okI op a b = false) : Calls Tryz.prog 29 #[instV op a b] w fun e w' => e = .returned (.bool false) ∧ Keep NoB w w' := by
  have hf : endsI op a b = false := by unfold endsI; rw [rowR_no h]; rfl
  have := ends_any op a b w
  rw [hf] at this
  exact this
theorem check_good (h : okI op a b = true) : Calls Tryz.prog 14 #[instV op a b] w fun e w' => e = .returned (.int .i64 0) ∧ Keep NoB w w' := by
  have := check_any op a b w
  unfold chk at this
  rw [if_pos h] at this
  exact this
theorem bytes_good (h : okI op a b = true) : Calls Tryz.prog 36 #[instV op a b] w fun e w' => e = .returned (.string (str (bytesI op a b))) ∧ Keep NoB w w' := by
  have := bytes_any op a b w (in_bounds (ok_op h).2.1).1 (in_bounds (ok_op h).2.2).1
  unfold encI at this
  rw [if_pos h] at this
  exact this
end
theorem str_cell (l : List (List UInt8)) (w : World) (t : TypeId) (k : Nat) (hk : k < l.length) (v : World) (h : Keep NoB (w.alloc (.cells (sv l).toArray t)) v) : v.cell? ⟨w.heap.size, k, none⟩ = some (.string (str l[k])) := by
  refine h.cell ?_ id
  rw [(Blk.new w t (sv l).toArray).cell k]
  simp [sv, hk]
theorem none_at {k : Nat} (hk : k < noneL.length) : noneB noneL[k] = true ∧ noneL[k].length ≤ 1000 :=
  ⟨List.all_eq_true.1 none_all _ (List.getElem_mem hk), of_decide_eq_true (List.all_eq_true.1 (show noneL.all (fun s => decide (s.length ≤ 1000)) = true by decide) _ (List.getElem_mem hk))⟩
theorem nop_all : (takesI 0 0 0 = [] ∧ leavesI 0 0 0 = []) ∧ fixedI 0 0 0 = true := by decide +kernel
theorem effect_nop (w : World) : Calls Tryz.prog 20 #[instV 0 0 0] w fun e w' => ∃ A c B m d, e = .returned (.tuple #[.slice A 0 c, .slice B m d, .bool true]) ∧ Keep NoB w w' := by
  refine (effect_any 0 0 0 w).mono ?_
  rintro e w' ⟨A, c, B, d, rfl, _, _, hk⟩
  rw [nop_all.1.1, nop_all.2]
  exact ⟨A, c, B, _, d, rfl, hk⟩
theorem bvs_lit (cs : Array Value) (l : List UInt8) (w : World) (T : TypeId) (h : cs = (V.bvs l).toArray) (g : Nat) (hg : g = w.heap.size) : V.Rd (w.alloc (.cells cs T)) (some ⟨g, 0, none⟩) l := by subst h hg; exact bvs_new l w T
theorem lit_1 : #[Value.int .u8 0] = (V.bvs [0]).toArray := by rfl
theorem lit_2 : #[Value.int .u8 30] = (V.bvs [30]).toArray := by rfl
theorem lit_3 : #[Value.int .u8 9, .int .u8 1] = (V.bvs [9, 1]).toArray := by rfl
theorem lit_4 : #[Value.int .u8 2, .int .u8 0] = (V.bvs [2, 0]).toArray := by rfl
theorem lit_5 : #[Value.int .u8 9, .int .u8 1, .int .u8 4] = (V.bvs [9, 1, 4]).toArray := by rfl
theorem lit_6 : #[Value.int .u8 18, .int .u8 130, .int .u8 0] = (V.bvs [18, 130, 0]).toArray := by rfl
theorem bytes_some {op a b : Int} (h : okI op a b = true) : ((str (bytesI op a b)).toList == []) = false := by
  rw [ByteArray.toList_eq, beq_eq_false_iff_ne]
  simpa using bytes_ne h

set_option maxRecDepth 100000 in
set_option maxHeartbeats 16000000 in
theorem names_walk (w : World) (hL : LaidO w) (hC : CutAt w) : Calls Tryz.prog 5 #[] w fun e w' => e = .returned (.bool true) ∧ Keep NoB w w' := by
  obtain ⟨i0, hi, hz0, hz1, hz2⟩ := info_parts string_info
  have HL := Lib.hid hL
  have HC := Lib.hid hC
  clear hL hC
  go_enter Tryz.func5, Tryz.ntmps5
  go_wp2
  go_loopw [1, 2] (fun l i wr => ∃ (k : Nat), k ≤ 32 ∧ i = .int .i64 ((k : Int) - 1) ∧ (∃ B d, l = .slice B k d ∧ Own wr 9 1 (Fresh w) (.slice B k d) k (sv (nmL.take k))) ∧ Keep NoB w wr) (fun _ i _ => 32 - (intOf i + 1).toNat)
  case atStart => exact ⟨0, by omega, rfl, ⟨_, _, rfl, Own.nil _ _ _ _⟩, Keep.refl _ _⟩
  case round =>
    obtain ⟨k, hk, rfl, ⟨B, d, rfl, hO⟩, hK⟩ := hrel
    by_cases hlt : k < 32
    · have HG := Lib.hid (nmL_get hlt)
      have HN := Lib.hid (fun w => name_any ((k : Int) - 1) w)
      have HZ : Hid (sv (nmL.take (k + 1)) = sv (nmL.take k) ++ [.string (str (rowAt ((k : Int) - 1)).name)]) := by show _ = _; rw [HG.out]; simp
      generalize str (rowAt ((k : Int) - 1)).name = TT at *
      have dk : decide ((k : Int) - 1 ≤ 30) = true := by rw [decide_eq_true_iff]; omega
      clear HG
      go_wp2_with fail
      refine (HN.out _).mono ?_
      rintro e w1 ⟨rfl, k1⟩
      replace hK := keepN hK k1
      replace hO := hO.keepN k1
      clear k1
      go_wp2_with (at_builtin; refine wpList_append_rd _ rfl (.tmp 43) (.tmp 46) _ rfl 9 1 16 i0 _ Tryz.underlying61 hi hz0 hz1 hz2 rfl (by decide) _ k _ _ 1 _ [.string TT] rfl (hO.1.alloc _) rfl rd_one rfl (by simp [Value.oneCell']) (by unfold maxLen; omega) (by omega) ?_; intro B2 d2 w9 hrow3 hg3 hv3; rw [← HZ.out] at hrow3; obtain ⟨hO3, hK3⟩ := _root_.Go.Proofs.YtpkcjokkadfhcaaGreatDoor.W.own_after hO.2 (hK.alloc _) hg3 hv3 hrow3; clear hrow3 hg3 hv3)
      go_roundw
      case rel => exact ⟨k + 1, by omega, by go_num, ⟨B2, d2, rfl, hO3⟩, hK3⟩
      case measure => simp [intOf]; omega
    · obtain rfl : k = 32 := by omega
      have dk : decide (((32 : Nat) : Int) - 1 ≤ 30) = false := by decide
      have hR := own_rdN hO
      rw [List.take_of_length_le (by rw [nmL_len]; exact Nat.le_refl _)] at hR
      clear hO
      go_wp2_with fail
      refine (join_any nmL B 32 d _ nmL_len (by omega) (by omega) hR.1 hR.2 (by rw [nmL_join]; decide)).mono ?_
      rintro e w1 ⟨rfl, k1⟩
      replace hK := keepN hK k1
      clear k1 hR
      rw [nmL_join]
      go_wp2_with fail
      refine (effects_all _ (HL.out.keep hK) (by rw [effL_join]; decide)).mono ?_
      rintro e w2 ⟨rfl, k1⟩
      replace hK := keepN hK k1
      clear k1
      rw [effL_join]
      go_wp2_with fail
      refine (of_any (-1) (0) (0) _).mono ?_
      rintro e w3 ⟨rfl, k1⟩
      replace hK := keepN hK k1
      clear k1
      go_wp2_with fail
      refine (of_any (30) (0) (0) _).mono ?_
      rintro e w3 ⟨rfl, k1⟩
      replace hK := keepN hK k1
      clear k1
      go_wp2_with fail
      refine (of_any (0) (1) (0) _).mono ?_
      rintro e w3 ⟨rfl, k1⟩
      replace hK := keepN hK k1
      clear k1
      go_wp2_with fail
      refine (of_any (0) (0) (1) _).mono ?_
      rintro e w3 ⟨rfl, k1⟩
      replace hK := keepN hK k1
      clear k1
      go_wp2_with fail
      refine (of_any (1) (0) (1) _).mono ?_
      rintro e w3 ⟨rfl, k1⟩
      replace hK := keepN hK k1
      clear k1
      go_wp2_with fail
      refine (of_any (2) (0) (0) _).mono ?_
      rintro e w3 ⟨rfl, k1⟩
      replace hK := keepN hK k1
      clear k1
      go_wp2_with fail
      refine (of_any (2) (5) (0) _).mono ?_
      rintro e w3 ⟨rfl, k1⟩
      replace hK := keepN hK k1
      clear k1
      go_wp2_with fail
      refine (of_any (3) (64) (0) _).mono ?_
      rintro e w3 ⟨rfl, k1⟩
      replace hK := keepN hK k1
      clear k1
      go_wp2_with fail
      refine (of_any (3) (-1) (0) _).mono ?_
      rintro e w3 ⟨rfl, k1⟩
      replace hK := keepN hK k1
      clear k1
      go_wp2_with fail
      refine (of_any (8) (64) (0) _).mono ?_
      rintro e w3 ⟨rfl, k1⟩
      replace hK := keepN hK k1
      clear k1
      go_wp2_with fail
      refine (of_any (9) (16) (1) _).mono ?_
      rintro e w3 ⟨rfl, k1⟩
      replace hK := keepN hK k1
      clear k1
      go_wp2_with fail
      refine (of_any (9) (0) (0) _).mono ?_
      rintro e w3 ⟨rfl, k1⟩
      replace hK := keepN hK k1
      clear k1
      go_wp2_with fail
      refine (of_any (9) (0) (4) _).mono ?_
      rintro e w3 ⟨rfl, k1⟩
      replace hK := keepN hK k1
      clear k1
      go_wp2_with fail
      refine (of_any (11) (64) (0) _).mono ?_
      rintro e w3 ⟨rfl, k1⟩
      replace hK := keepN hK k1
      clear k1
      go_wp2_with fail
      refine (of_any (15) (14) (0) _).mono ?_
      rintro e w3 ⟨rfl, k1⟩
      replace hK := keepN hK k1
      clear k1
      go_wp2_with fail
      refine (of_any (16) (9) (0) _).mono ?_
      rintro e w3 ⟨rfl, k1⟩
      replace hK := keepN hK k1
      clear k1
      go_wp2_with fail
      refine (of_any (17) (0) (0) _).mono ?_
      rintro e w3 ⟨rfl, k1⟩
      replace hK := keepN hK k1
      clear k1
      go_wp2_with fail
      refine (of_any (18) (512) (0) _).mono ?_
      rintro e w3 ⟨rfl, k1⟩
      replace hK := keepN hK k1
      clear k1
      go_wp2_with fail
      refine (of_any (20) (-1) (0) _).mono ?_
      rintro e w3 ⟨rfl, k1⟩
      replace hK := keepN hK k1
      clear k1
      go_wp2_with fail
      refine (of_any (24) (1) (0) _).mono ?_
      rintro e w3 ⟨rfl, k1⟩
      replace hK := keepN hK k1
      clear k1
      replace hK := hK.alloc (.cells (tvs badL).toArray 23)
      go_wp2
      go_loopw [5, 75] (fun b i wr => ∃ (k : Nat), k ≤ 20 ∧ b = .int .i64 (k : Int) ∧ i = .int .i64 (k : Int) ∧ Keep NoB (w3.alloc (.cells (tvs badL).toArray 23)) wr) (fun _ i _ => 20 - (intOf i).toNat)
      case atStart => exact ⟨0, by omega, rfl, rfl, Keep.refl _ _⟩
      case round =>
        obtain ⟨k, hk, rfl, rfl, hKr⟩ := hrel
        by_cases hlt : k < 20
        · have hkl : k < badL.length := hlt
          obtain ⟨c0, c1, c2⟩ := tri_cells badL w3 23 k hkl wr hKr
          have HB := Lib.hid (bad_at hkl)
          obtain ⟨⟨op, a, b⟩, hx⟩ : ∃ x, badL[k] = x := ⟨_, rfl⟩
          rw [hx] at c0 c1 c2 HB
          dsimp only at c0 c1 c2 HB
          have hKw := keepN hK hKr
          clear hx hkl
          have HE := Lib.hid (fun w => effect_bad op a b w HB.out.1)
          have HGo := Lib.hid (fun w => goes_bad op a b w HB.out.1)
          have HCk := Lib.hid (fun w => check_bad op a b w HB.out.1)
          have HBy := Lib.hid (fun w => bytes_bad op a b w HB.out.1 HB.out.2.1 HB.out.2.2)
          have HSh := Lib.hid (fun w h => show_bad op a b w HB.out.1 HB.out.2.1 HB.out.2.2 h)
          have HEn := Lib.hid (fun w => ends_bad op a b w HB.out.1)
          clear HB
          have hA := hKr.alloc (.cells #[.int .i64 op, .int .i64 a, .int .i64 b] 23)
          have bx := Blk.new wr 23 #[.int .i64 op, .int .i64 a, .int .i64 b]
          obtain ⟨x0, x1, x2⟩ := blk_inst bx
          go_wp2_with fail
          refine (HE.out _).mono ?_
          rintro e w4 ⟨A, c, n, B2, d2, m, rfl, k1⟩
          replace bx := bx.keep k1 id
          replace hA := keepN hA k1
          clear k1 x0 x1 x2
          obtain ⟨x0, x1, x2⟩ := blk_inst bx
          go_wp2_with fail
          refine (HGo.out _).mono ?_
          rintro e w5 ⟨rfl, k1⟩
          replace bx := bx.keep k1 id
          replace hA := keepN hA k1
          clear k1 x0 x1 x2
          obtain ⟨x0, x1, x2⟩ := blk_inst bx
          go_wp2_with fail
          refine (HCk.out _).mono ?_
          rintro e w6 ⟨rfl, k1⟩
          replace bx := bx.keep k1 id
          replace hA := keepN hA k1
          clear k1 x0 x1 x2
          obtain ⟨x0, x1, x2⟩ := blk_inst bx
          go_wp2_with fail
          refine (HBy.out _).mono ?_
          rintro e w7 ⟨rfl, k1⟩
          replace bx := bx.keep k1 id
          replace hA := keepN hA k1
          clear k1 x0 x1 x2
          obtain ⟨x0, x1, x2⟩ := blk_inst bx
          go_wp2_with fail
          refine (HSh.out _ (HL.out.keep (keepN hK hA))).mono ?_
          rintro e w8 ⟨rfl, k1⟩
          replace bx := bx.keep k1 id
          replace hA := keepN hA k1
          clear k1 x0 x1 x2
          obtain ⟨x0, x1, x2⟩ := blk_inst bx
          go_wp2_with fail
          refine (HEn.out _).mono ?_
          rintro e w9 ⟨rfl, k1⟩
          replace bx := bx.keep k1 id
          replace hA := keepN hA k1
          clear k1 x0 x1 x2
          obtain ⟨x0, x1, x2⟩ := blk_inst bx
          go_wp2
          go_roundw
          case rel => exact ⟨k + 1, by omega, by go_num, by go_num, hA⟩
          case measure => simp [intOf]; omega
        · obtain rfl : k = 20 := by omega
          rw [show ((20 : Nat) : Int) = 20 from rfl]
          replace hK := keepN hK hKr
          clear hKr
          go_wp2_with fail
          refine (of_any (1) (-9223372036854775808) (0) _).mono ?_
          rintro e w4 ⟨rfl, k1⟩
          replace hK := keepN hK k1
          clear k1
          go_wp2_with fail
          refine (of_any (1) (9223372036854775807) (0) _).mono ?_
          rintro e w4 ⟨rfl, k1⟩
          replace hK := keepN hK k1
          clear k1
          go_wp2_with fail
          refine (of_any (2) (4) (0) _).mono ?_
          rintro e w4 ⟨rfl, k1⟩
          replace hK := keepN hK k1
          clear k1
          go_wp2_with fail
          refine (of_any (3) (63) (0) _).mono ?_
          rintro e w4 ⟨rfl, k1⟩
          replace hK := keepN hK k1
          clear k1
          go_wp2_with fail
          refine (of_any (8) (63) (0) _).mono ?_
          rintro e w4 ⟨rfl, k1⟩
          replace hK := keepN hK k1
          clear k1
          go_wp2_with fail
          refine (of_any (10) (15) (3) _).mono ?_
          rintro e w4 ⟨rfl, k1⟩
          replace hK := keepN hK k1
          clear k1
          go_wp2_with fail
          refine (of_any (11) (63) (0) _).mono ?_
          rintro e w4 ⟨rfl, k1⟩
          replace hK := keepN hK k1
          clear k1
          go_wp2_with fail
          refine (of_any (15) (13) (0) _).mono ?_
          rintro e w4 ⟨rfl, k1⟩
          replace hK := keepN hK k1
          clear k1
          go_wp2_with fail
          refine (of_any (16) (8) (0) _).mono ?_
          rintro e w4 ⟨rfl, k1⟩
          replace hK := keepN hK k1
          clear k1
          go_wp2_with fail
          refine (of_any (18) (511) (0) _).mono ?_
          rintro e w4 ⟨rfl, k1⟩
          replace hK := keepN hK k1
          clear k1
          replace hK := hK.alloc (.cells (tvs goodL).toArray 23)
          go_wp2
          go_loopw [13, 131] (fun b i wr => ∃ (k : Nat), k ≤ 10 ∧ b = .int .i64 (k : Int) ∧ i = .int .i64 (k : Int) ∧ Keep NoB (w4.alloc (.cells (tvs goodL).toArray 23)) wr) (fun _ i _ => 10 - (intOf i).toNat)
          case atStart => exact ⟨0, by omega, rfl, rfl, Keep.refl _ _⟩
          case round =>
            obtain ⟨k, hk, rfl, rfl, hKr⟩ := hrel
            by_cases hlt : k < 10
            · have hkl : k < goodL.length := hlt
              obtain ⟨c0, c1, c2⟩ := tri_cells goodL w4 23 k hkl wr hKr
              have HB := Lib.hid (good_at hkl)
              obtain ⟨⟨op, a, b⟩, hx⟩ : ∃ x, goodL[k] = x := ⟨_, rfl⟩
              rw [hx] at c0 c1 c2 HB
              dsimp only at c0 c1 c2 HB
              clear hx hkl
              have HCk := Lib.hid (fun w => check_good op a b w HB.out)
              have HBy := Lib.hid (fun w => bytes_good op a b w HB.out)
              have hne := bytes_some HB.out
              clear HB
              generalize str (bytesI op a b) = E at *
              have hne2 : E.toList.isEmpty = false := by cases h : E.toList with
                | nil => simp [h] at hne
                | cons _ _ => rfl
              have hA := hKr.alloc (.cells #[.int .i64 op, .int .i64 a, .int .i64 b] 23)
              have bx := Blk.new wr 23 #[.int .i64 op, .int .i64 a, .int .i64 b]
              obtain ⟨x0, x1, x2⟩ := blk_inst bx
              go_wp2_with fail
              refine (HCk.out _).mono ?_
              rintro e w5 ⟨rfl, k1⟩
              replace bx := bx.keep k1 id
              replace hA := keepN hA k1
              clear k1 x0 x1 x2
              obtain ⟨x0, x1, x2⟩ := blk_inst bx
              go_wp2_with fail
              refine (HBy.out _).mono ?_
              rintro e w6 ⟨rfl, k1⟩
              replace bx := bx.keep k1 id
              replace hA := keepN hA k1
              clear k1 x0 x1 x2
              obtain ⟨x0, x1, x2⟩ := blk_inst bx
              go_wp2
              go_roundw
              case rel => exact ⟨k + 1, by omega, by go_num, by go_num, hA⟩
              case measure => simp [intOf]; omega
            · obtain rfl : k = 10 := by omega
              rw [show ((10 : Nat) : Int) = 10 from rfl]
              replace hK := keepN hK hKr
              clear hKr
              go_wp2
              go_loopw [16, 148] (fun b i v => ∃ (k : Nat), k ≤ 16 ∧ b = .int .i64 (k : Int) ∧ i = .int .i64 (k : Int) ∧ Keep NoB (wr.alloc (.cells (sv noneL).toArray 9)) v) (fun _ i _ => 16 - (intOf i).toNat)
              case atStart => exact ⟨0, by omega, rfl, rfl, Keep.refl _ _⟩
              case round =>
                obtain ⟨k, hk, rfl, rfl, hKr⟩ := hrel
                by_cases hlt : k < 16
                · have hkl : k < noneL.length := hlt
                  have c0 := str_cell noneL _ 9 k hkl wr hKr
                  have HN := Lib.hid (none_at hkl)
                  obtain ⟨s, hs⟩ : ∃ s, noneL[k] = s := ⟨_, rfl⟩
                  rw [hs] at c0 HN
                  have hKw := keepN (hK.alloc (.cells (sv noneL).toArray 9)) hKr
                  have HR := Lib.hid (read_none s _ HN.out.1 HN.out.2 (HL.out.keep hKw) (HC.out.keep hKw))
                  clear hs hkl HN hKw
                  generalize str s = TT at *
                  go_wp2_with fail
                  refine HR.out.mono ?_
                  rintro e w6 ⟨rfl, k1⟩
                  have bx := Blk.new w6 23 #[.int .i64 0, .int .i64 0, .int .i64 0]
                  replace hKr := (keepN hKr k1).alloc (.cells #[.int .i64 0, .int .i64 0, .int .i64 0] 23)
                  obtain ⟨x0, x1, x2⟩ := blk_inst bx
                  clear k1 bx
                  go_wp2
                  go_roundw
                  case rel => exact ⟨k + 1, by omega, by go_num, by go_num, hKr⟩
                  case measure => simp [intOf]; omega
                · obtain rfl : k = 16 := by omega
                  rw [show ((16 : Nat) : Int) = 16 from rfl]
                  replace hK := keepN (hK.alloc (.cells (sv noneL).toArray 9)) hKr
                  clear hKr
                  go_wp2_with fail
                  refine (of_any (0) (0) (0) _).mono ?_
                  rintro e w7 ⟨rfl, k1⟩
                  replace hK := keepN hK k1
                  clear k1
                  go_wp2_with fail
                  refine (effect_nop _).mono ?_
                  rintro e w8 ⟨A0, c0, B0, m0, d0, rfl, k1⟩
                  replace hK := keepN hK k1
                  clear k1
                  go_wp2_with fail
                  refine (V.on_any _ (some ⟨_, 0, none⟩) [0] 1 (bvs_lit #[.int .u8 0] [0] _ 5 lit_1 _ (by simp)) (by decide)).mono ?_
                  rintro e u1 ⟨br0, rfl, hR, k1⟩
                  go_wp2_with fail
                  refine (decode_at _ br0 [0] 0 0 0 0 dl_1 (by decide) _ hR k1).mono ?_
                  rintro e u2 ⟨rfl, k2⟩
                  have bn := Blk.new u2 23 #[.int .i64 0, .int .i64 0, .int .i64 0]
                  replace hK := (keepN (hK.alloc (.cells #[.int .u8 0] 5)) k2).alloc (.cells #[.int .i64 0, .int .i64 0, .int .i64 0] 23)
                  clear k1 k2 hR
                  go_wp2_with fail
                  refine (V.on_any _ (some ⟨_, 0, none⟩) [30] 1 (bvs_lit #[.int .u8 30] [30] _ 5 lit_2 _ (by simp)) (by decide)).mono ?_
                  rintro e u1 ⟨br1, rfl, hR, k1⟩
                  go_wp2_with fail
                  refine (decode_at _ br1 [30] 0 0 0 12 dl_2 (by decide) _ hR k1).mono ?_
                  rintro e u3 ⟨rfl, k2⟩
                  replace bn := ((bn.alloc (.cells #[.int .u8 30] 5)).keep k2 id).alloc (.cells #[.int .i64 0, .int .i64 0, .int .i64 0] 23)
                  replace hK := (keepN (hK.alloc (.cells #[.int .u8 30] 5)) k2).alloc (.cells #[.int .i64 0, .int .i64 0, .int .i64 0] 23)
                  clear k1 k2 hR
                  go_wp2_with fail
                  refine (V.on_any _ (some ⟨_, 0, none⟩) [9, 1] 2 (bvs_lit #[.int .u8 9, .int .u8 1] [9, 1] _ 5 lit_3 _ (by simp)) (by decide)).mono ?_
                  rintro e u1 ⟨br2, rfl, hR, k1⟩
                  go_wp2_with fail
                  refine (decode_at _ br2 [9, 1] 0 0 0 10 dl_3 (by decide) _ hR k1).mono ?_
                  rintro e u4 ⟨rfl, k2⟩
                  replace bn := ((bn.alloc (.cells #[.int .u8 9, .int .u8 1] 5)).keep k2 id).alloc (.cells #[.int .i64 0, .int .i64 0, .int .i64 0] 23)
                  replace hK := (keepN (hK.alloc (.cells #[.int .u8 9, .int .u8 1] 5)) k2).alloc (.cells #[.int .i64 0, .int .i64 0, .int .i64 0] 23)
                  clear k1 k2 hR
                  go_wp2_with fail
                  refine (V.on_any _ (some ⟨_, 0, none⟩) [2, 0] 2 (bvs_lit #[.int .u8 2, .int .u8 0] [2, 0] _ 5 lit_4 _ (by simp)) (by decide)).mono ?_
                  rintro e u1 ⟨br3, rfl, hR, k1⟩
                  go_wp2_with fail
                  refine (decode_at _ br3 [2, 0] 0 0 0 40 dl_4 (by decide) _ hR k1).mono ?_
                  rintro e u5 ⟨rfl, k2⟩
                  replace bn := ((bn.alloc (.cells #[.int .u8 2, .int .u8 0] 5)).keep k2 id).alloc (.cells #[.int .i64 0, .int .i64 0, .int .i64 0] 23)
                  replace hK := (keepN (hK.alloc (.cells #[.int .u8 2, .int .u8 0] 5)) k2).alloc (.cells #[.int .i64 0, .int .i64 0, .int .i64 0] 23)
                  clear k1 k2 hR
                  go_wp2_with fail
                  refine (V.on_any _ (some ⟨_, 0, none⟩) [9, 1, 4] 3 (bvs_lit #[.int .u8 9, .int .u8 1, .int .u8 4] [9, 1, 4] _ 5 lit_5 _ (by simp)) (by decide)).mono ?_
                  rintro e u1 ⟨br4, rfl, hR, k1⟩
                  go_wp2_with fail
                  refine (decode_at _ br4 [9, 1, 4] 0 0 0 12 dl_5 (by decide) _ hR k1).mono ?_
                  rintro e u6 ⟨rfl, k2⟩
                  replace bn := ((bn.alloc (.cells #[.int .u8 9, .int .u8 1, .int .u8 4] 5)).keep k2 id).alloc (.cells #[.int .i64 0, .int .i64 0, .int .i64 0] 23)
                  replace hK := (keepN (hK.alloc (.cells #[.int .u8 9, .int .u8 1, .int .u8 4] 5)) k2).alloc (.cells #[.int .i64 0, .int .i64 0, .int .i64 0] 23)
                  clear k1 k2 hR
                  go_wp2_with fail
                  refine (V.on_any _ (some ⟨_, 0, none⟩) [18, 130, 0] 3 (bvs_lit #[.int .u8 18, .int .u8 130, .int .u8 0] [18, 130, 0] _ 5 lit_6 _ (by simp)) (by decide)).mono ?_
                  rintro e u1 ⟨br5, rfl, hR, k1⟩
                  go_wp2_with fail
                  refine (decode_at _ br5 [18, 130, 0] 0 0 0 12 dl_6 (by decide) _ hR k1).mono ?_
                  rintro e u7 ⟨rfl, k2⟩
                  replace bn := ((bn.alloc (.cells #[.int .u8 18, .int .u8 130, .int .u8 0] 5)).keep k2 id).alloc (.cells #[.int .i64 0, .int .i64 0, .int .i64 0] 23)
                  replace hK := (keepN (hK.alloc (.cells #[.int .u8 18, .int .u8 130, .int .u8 0] 5)) k2).alloc (.cells #[.int .i64 0, .int .i64 0, .int .i64 0] 23)
                  clear k1 k2 hR
                  go_wp2_with fail
                  refine (decode_nil _).mono ?_
                  rintro e u9 ⟨rfl, k1⟩
                  replace bn := (bn.keep k1 id).alloc (.cells #[.int .i64 0, .int .i64 0, .int .i64 0] 23)
                  replace hK := (keepN hK k1).alloc (.cells #[.int .i64 0, .int .i64 0, .int .i64 0] 23)
                  clear k1
                  obtain ⟨x0, x1, x2⟩ := blk_inst bn
                  go_wp2_with fail
                  refine (alive_any _ (HL.out.keep hK)).mono ?_
                  rintro e u10 ⟨rfl, k1⟩
                  go_wp2
                  go_ret
                  exact ⟨rfl, keepN hK k1⟩

end Go.Proofs.YtpkcjokkadfhcaaGreatDoor.O
