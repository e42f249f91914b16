/-
  What the document's Read answers: what rd says. No conditions.
-/
import Derived.Test.YtpkcjokkadfhcaaGreatDoorQ11
namespace Go.Proofs.YtpkcjokkadfhcaaGreatDoor.W
open Go.RowKit

/-- What Read answers when its last guess is g. -/
def rOut (k g : Int) (s : List UInt8) : Value := if showL k g = s then .tuple #[.agg #[.int .i64 k, .int .i64 g], .int .i64 0] else .tuple #[.agg #[.int .i64 0, .int .i64 0], .int .i64 21]
theorem rOut_ok {k g : Int} {s : List UInt8} (h : showL k g = s) : rOut k g s = .tuple #[.agg #[.int .i64 k, .int .i64 g], .int .i64 0] := by unfold rOut; rw [if_pos h]
theorem rOut_no {k g : Int} {s : List UInt8} (h : showL k g ≠ s) : rOut k g s = .tuple #[.agg #[.int .i64 0, .int .i64 0], .int .i64 21] := by unfold rOut; rw [if_neg h]
theorem extract_drop {S : ByteArray} {s : List UInt8} (h : S.data.toList = s) : (S.extract 1 S.size).data.toList = s.drop 1 := by
  have hz := size_of h
  rw [ByteArray.data_extract, Array.toList_extract, h]
  simp only [List.extract, hz, List.drop_one]
  exact List.take_of_length_le (by simp)
theorem keep_out (w w' : World) (B : Nat) (h : Keep NoB w w') (hB : w.heap.size ≤ B) (u v : Value) : Keep NoB w ((w'.setCell ⟨B, 0, none⟩ u).setCell ⟨B, 1, none⟩ v) :=
  (h.setCell (fun h => by have : B < w.heap.size := h; omega) _).setCell (fun h => by have : B < w.heap.size := h; omega) _

set_option maxRecDepth 100000 in
set_option maxHeartbeats 8000000 in
theorem rread_1_none (S : ByteArray) (s : List UInt8) (n : Int) (w : World) (hs : Hid (S.data.toList = s)) (hl : S.size ≤ 281474976710656) (hn : I64 n) (he : s = []) (hR : Hid (numR (digs 1 s) = (n, false))) :
    Calls Tryz.prog 92 #[.int .i64 1, .string S] w fun e w' => e = .returned (.tuple #[.agg #[.int .i64 0, .int .i64 0], .int .i64 21]) ∧ Keep NoB w w' := by
  have hz := size_of hs.out
  have q1 : (S.toList == []) = true := by rw [ByteArray.toList_eq, hs.out, he]; rfl
  have hz0 : S.size = 0 := by rw [hz, he]; rfl
  obtain ⟨hn0, hn1⟩ := hn
  have HD : Hid (S.data.toList = digs 1 s) := by show _ = _; unfold digs; rw [if_neg (by decide)]; exact hs.out
  have HN := Lib.hid (fun W => number_any S _ W HD hl)
  rw [hR.out] at HN
  have hB := Blk.new w 146 #[.int .i64 0, .int .i64 0]
  have hK := (Keep.refl NoB w).alloc (.cells #[.int .i64 0, .int .i64 0] 146)
  clear he
  clear hz hR
  go_enter Tryz.func92, Tryz.ntmps92
  go_wp2_with (first | (go_at_call 115; refine (rknown_any _ _).mono ?_; rintro e w' ⟨rfl, rfl⟩) | fail)
  refine (HN.out _).mono ?_
  rintro e w2 ⟨rfl, rfl⟩
  go_wp2
  refine bodyPost_ret (v := .tuple #[.agg #[.int .i64 0, .int .i64 0], .int .i64 21]) (by simp [results, Tryz.results92, go_sem]) rfl ⟨rfl, ?_⟩
  exact hK.alloc _

set_option maxRecDepth 100000 in
set_option maxHeartbeats 8000000 in
theorem rread_1_amp (S : ByteArray) (s : List UInt8) (n : Int) (w : World) (hs : Hid (S.data.toList = s)) (hl : S.size ≤ 281474976710656) (hn : I64 n) (he : s = [38]) (hR : Hid (numR (digs 1 s) = (n, false))) :
    Calls Tryz.prog 92 #[.int .i64 1, .string S] w fun e w' => e = .returned (.tuple #[.agg #[.int .i64 0, .int .i64 0], .int .i64 21]) ∧ Keep NoB w w' := by
  have hz := size_of hs.out
  have q1 : (S.toList == []) = false := by rw [ByteArray.toList_eq, hs.out, he]; rfl
  have q2 : (S.toList == [38]) = true := by rw [ByteArray.toList_eq, hs.out, he]; rfl
  have hz0 : 0 < S.size := by rw [hz, he]; decide
  obtain ⟨hn0, hn1⟩ := hn
  have HD : Hid (S.data.toList = digs 1 s) := by show _ = _; unfold digs; rw [if_neg (by decide)]; exact hs.out
  have HN := Lib.hid (fun W => number_any S _ W HD hl)
  rw [hR.out] at HN
  have hB := Blk.new w 146 #[.int .i64 0, .int .i64 0]
  have hK := (Keep.refl NoB w).alloc (.cells #[.int .i64 0, .int .i64 0] 146)
  clear he
  clear hz hR
  go_enter Tryz.func92, Tryz.ntmps92
  go_wp2_with (first | (go_at_call 115; refine (rknown_any _ _).mono ?_; rintro e w' ⟨rfl, rfl⟩) | fail)
  refine (HN.out _).mono ?_
  rintro e w2 ⟨rfl, rfl⟩
  go_wp2
  refine bodyPost_ret (v := .tuple #[.agg #[.int .i64 0, .int .i64 0], .int .i64 21]) (by simp [results, Tryz.results92, go_sem]) rfl ⟨rfl, ?_⟩
  exact hK.alloc _

set_option maxRecDepth 100000 in
set_option maxHeartbeats 8000000 in
theorem rread_1_f (S : ByteArray) (s : List UInt8) (n : Int) (w : World) (hs : Hid (S.data.toList = s)) (hl : S.size ≤ 281474976710656) (hn : I64 n) (hne : s ≠ []) (hamp : s ≠ [38]) (hR : Hid (numR (digs 1 s) = (n, false))) :
    Calls Tryz.prog 92 #[.int .i64 1, .string S] w fun e w' => e = .returned (rOut 1 (0) s) ∧ Keep NoB w w' := by
  have hz := size_of hs.out
  have q1 : (S.toList == []) = false := by rw [ByteArray.toList_eq, hs.out, beq_eq_false_iff_ne]; exact hne
  have q2 : (S.toList == [38]) = false := by rw [ByteArray.toList_eq, hs.out, beq_eq_false_iff_ne]; exact hamp
  have hz0 : 0 < S.size := by rw [hz]; exact List.length_pos_iff.2 hne
  obtain ⟨hn0, hn1⟩ := hn
  have HD : Hid (S.data.toList = digs 1 s) := by show _ = _; unfold digs; rw [if_neg (by decide)]; exact hs.out
  have HN := Lib.hid (fun W => number_any S _ W HD hl)
  rw [hR.out] at HN
  have hB := Blk.new w 146 #[.int .i64 0, .int .i64 0]
  have hK := (Keep.refl NoB w).alloc (.cells #[.int .i64 0, .int .i64 0] 146)
  clear hne
  clear hamp
  clear hz hR
  have HS := Lib.hid (fun W => rshow_any 1 (0) W ⟨by omega, by omega⟩)
  by_cases hq : showL 1 (0) = s
  · have q4 : (showL 1 (0) == S.toList) = true := by rw [ByteArray.toList_eq, hs.out, beq_iff_eq]; exact hq
    rw [rOut_ok hq]
    clear hq
    go_enter Tryz.func92, Tryz.ntmps92
    go_wp2_with (first | (go_at_call 115; refine (rknown_any _ _).mono ?_; rintro e w' ⟨rfl, rfl⟩) | fail)
    refine (HN.out _).mono ?_
    rintro e w2 ⟨rfl, rfl⟩
    go_wp2_with fail
    refine (HS.out _).mono ?_
    rintro e w5 ⟨rfl, hk5⟩
    have hK5 := keepN (hK.alloc _) hk5
    have b2 := Blk.new (w.alloc (.cells #[.int .i64 0, .int .i64 0] 146)) 146 #[.int .i64 1, .int .i64 (0)]
    rw [show (w.alloc (.cells #[.int .i64 0, .int .i64 0] 146)).heap.size = w.heap.size + 1 by simp] at b2
    have b4 := (hB.keep ((Keep.refl NoB _).alloc _) id).keep hk5 id
    have b5 := b2.keep hk5 id
    have hz4 := b4.lt
    have hz5 := b5.lt
    have c0 : w5.cell? ⟨w.heap.size, 0, none⟩ = some (.int .i64 0) := b4.cell 0
    have c1 : w5.cell? ⟨w.heap.size, 1, none⟩ = some (.int .i64 0) := b4.cell 1
    have f0 := b4.frozen 0
    have f1 := b4.frozen 1
    have d0 : w5.cell? ⟨w.heap.size + 1, 0, none⟩ = some (.int .i64 1) := b5.cell 0
    have d1 : w5.cell? ⟨w.heap.size + 1, 1, none⟩ = some (.int .i64 (0)) := b5.cell 1
    clear HS HN hB b2 b4 b5
    go_wp2
    refine bodyPost_ret (v := .tuple #[.agg #[.int .i64 1, .int .i64 (0)], .int .i64 0]) ?_ rfl ⟨rfl, keep_out w w5 _ hK5 (Nat.le_refl _) _ _⟩
    simp [results, Tryz.results92, go_sem, c0, c1]
  · have q4 : (showL 1 (0) == S.toList) = false := by rw [ByteArray.toList_eq, hs.out, beq_eq_false_iff_ne]; exact hq
    rw [rOut_no hq]
    clear hq
    go_enter Tryz.func92, Tryz.ntmps92
    go_wp2_with (first | (go_at_call 115; refine (rknown_any _ _).mono ?_; rintro e w' ⟨rfl, rfl⟩) | fail)
    refine (HN.out _).mono ?_
    rintro e w2 ⟨rfl, rfl⟩
    go_wp2_with fail
    refine (HS.out _).mono ?_
    rintro e w5 ⟨rfl, hk5⟩
    have hK5 := keepN (hK.alloc _) hk5
    have b2 := Blk.new (w.alloc (.cells #[.int .i64 0, .int .i64 0] 146)) 146 #[.int .i64 1, .int .i64 (0)]
    rw [show (w.alloc (.cells #[.int .i64 0, .int .i64 0] 146)).heap.size = w.heap.size + 1 by simp] at b2
    have b4 := (hB.keep ((Keep.refl NoB _).alloc _) id).keep hk5 id
    have b5 := b2.keep hk5 id
    have hz4 := b4.lt
    have hz5 := b5.lt
    have c0 : w5.cell? ⟨w.heap.size, 0, none⟩ = some (.int .i64 0) := b4.cell 0
    have c1 : w5.cell? ⟨w.heap.size, 1, none⟩ = some (.int .i64 0) := b4.cell 1
    have f0 := b4.frozen 0
    have f1 := b4.frozen 1
    have d0 : w5.cell? ⟨w.heap.size + 1, 0, none⟩ = some (.int .i64 1) := b5.cell 0
    have d1 : w5.cell? ⟨w.heap.size + 1, 1, none⟩ = some (.int .i64 (0)) := b5.cell 1
    clear HS HN hB b2 b4 b5
    go_wp2
    refine bodyPost_ret (v := .tuple #[.agg #[.int .i64 0, .int .i64 0], .int .i64 21]) ?_ rfl ⟨rfl, keep_out w w5 _ hK5 (Nat.le_refl _) _ _⟩
    simp [results, Tryz.results92, go_sem, c0, c1]

set_option maxRecDepth 100000 in
set_option maxHeartbeats 8000000 in
theorem rread_1_t (S : ByteArray) (s : List UInt8) (n : Int) (w : World) (hs : Hid (S.data.toList = s)) (hl : S.size ≤ 281474976710656) (hn : I64 n) (hnil : s ≠ [110, 105, 108]) (hne : s ≠ []) (hamp : s ≠ [38]) (hR : Hid (numR (digs 1 s) = (n, true))) :
    Calls Tryz.prog 92 #[.int .i64 1, .string S] w fun e w' => e = .returned (rOut 1 (n) s) ∧ Keep NoB w w' := by
  have hz := size_of hs.out
  have q1 : (S.toList == []) = false := by rw [ByteArray.toList_eq, hs.out, beq_eq_false_iff_ne]; exact hne
  have q2 : (S.toList == [38]) = false := by rw [ByteArray.toList_eq, hs.out, beq_eq_false_iff_ne]; exact hamp
  have hz0 : 0 < S.size := by rw [hz]; exact List.length_pos_iff.2 hne
  have q3 : (S.toList == [110, 105, 108]) = false := by rw [ByteArray.toList_eq, hs.out, beq_eq_false_iff_ne]; exact hnil
  obtain ⟨hn0, hn1⟩ := hn
  have HD : Hid (S.data.toList = digs 1 s) := by show _ = _; unfold digs; rw [if_neg (by decide)]; exact hs.out
  have HN := Lib.hid (fun W => number_any S _ W HD hl)
  rw [hR.out] at HN
  have hB := Blk.new w 146 #[.int .i64 0, .int .i64 0]
  have hK := (Keep.refl NoB w).alloc (.cells #[.int .i64 0, .int .i64 0] 146)
  clear hne
  clear hamp
  clear hnil
  clear hz hR
  have HS := Lib.hid (fun W => rshow_any 1 (n) W ⟨by omega, by omega⟩)
  by_cases hq : showL 1 (n) = s
  · have q4 : (showL 1 (n) == S.toList) = true := by rw [ByteArray.toList_eq, hs.out, beq_iff_eq]; exact hq
    rw [rOut_ok hq]
    clear hq
    go_enter Tryz.func92, Tryz.ntmps92
    go_wp2_with (first | (go_at_call 115; refine (rknown_any _ _).mono ?_; rintro e w' ⟨rfl, rfl⟩) | fail)
    refine (HN.out _).mono ?_
    rintro e w2 ⟨rfl, rfl⟩
    go_wp2_with fail
    refine (HS.out _).mono ?_
    rintro e w5 ⟨rfl, hk5⟩
    have hK5 := keepN (hK.alloc _) hk5
    have b2 := Blk.new (w.alloc (.cells #[.int .i64 0, .int .i64 0] 146)) 146 #[.int .i64 1, .int .i64 (n)]
    rw [show (w.alloc (.cells #[.int .i64 0, .int .i64 0] 146)).heap.size = w.heap.size + 1 by simp] at b2
    have b4 := (hB.keep ((Keep.refl NoB _).alloc _) id).keep hk5 id
    have b5 := b2.keep hk5 id
    have hz4 := b4.lt
    have hz5 := b5.lt
    have c0 : w5.cell? ⟨w.heap.size, 0, none⟩ = some (.int .i64 0) := b4.cell 0
    have c1 : w5.cell? ⟨w.heap.size, 1, none⟩ = some (.int .i64 0) := b4.cell 1
    have f0 := b4.frozen 0
    have f1 := b4.frozen 1
    have d0 : w5.cell? ⟨w.heap.size + 1, 0, none⟩ = some (.int .i64 1) := b5.cell 0
    have d1 : w5.cell? ⟨w.heap.size + 1, 1, none⟩ = some (.int .i64 (n)) := b5.cell 1
    clear HS HN hB b2 b4 b5
    go_wp2
    refine bodyPost_ret (v := .tuple #[.agg #[.int .i64 1, .int .i64 (n)], .int .i64 0]) ?_ rfl ⟨rfl, keep_out w w5 _ hK5 (Nat.le_refl _) _ _⟩
    simp [results, Tryz.results92, go_sem, c0, c1]
  · have q4 : (showL 1 (n) == S.toList) = false := by rw [ByteArray.toList_eq, hs.out, beq_eq_false_iff_ne]; exact hq
    rw [rOut_no hq]
    clear hq
    go_enter Tryz.func92, Tryz.ntmps92
    go_wp2_with (first | (go_at_call 115; refine (rknown_any _ _).mono ?_; rintro e w' ⟨rfl, rfl⟩) | fail)
    refine (HN.out _).mono ?_
    rintro e w2 ⟨rfl, rfl⟩
    go_wp2_with fail
    refine (HS.out _).mono ?_
    rintro e w5 ⟨rfl, hk5⟩
    have hK5 := keepN (hK.alloc _) hk5
    have b2 := Blk.new (w.alloc (.cells #[.int .i64 0, .int .i64 0] 146)) 146 #[.int .i64 1, .int .i64 (n)]
    rw [show (w.alloc (.cells #[.int .i64 0, .int .i64 0] 146)).heap.size = w.heap.size + 1 by simp] at b2
    have b4 := (hB.keep ((Keep.refl NoB _).alloc _) id).keep hk5 id
    have b5 := b2.keep hk5 id
    have hz4 := b4.lt
    have hz5 := b5.lt
    have c0 : w5.cell? ⟨w.heap.size, 0, none⟩ = some (.int .i64 0) := b4.cell 0
    have c1 : w5.cell? ⟨w.heap.size, 1, none⟩ = some (.int .i64 0) := b4.cell 1
    have f0 := b4.frozen 0
    have f1 := b4.frozen 1
    have d0 : w5.cell? ⟨w.heap.size + 1, 0, none⟩ = some (.int .i64 1) := b5.cell 0
    have d1 : w5.cell? ⟨w.heap.size + 1, 1, none⟩ = some (.int .i64 (n)) := b5.cell 1
    clear HS HN hB b2 b4 b5
    go_wp2
    refine bodyPost_ret (v := .tuple #[.agg #[.int .i64 0, .int .i64 0], .int .i64 21]) ?_ rfl ⟨rfl, keep_out w w5 _ hK5 (Nat.le_refl _) _ _⟩
    simp [results, Tryz.results92, go_sem, c0, c1]

set_option maxRecDepth 100000 in
set_option maxHeartbeats 8000000 in
theorem rread_2_none (S : ByteArray) (s : List UInt8) (n : Int) (w : World) (hs : Hid (S.data.toList = s)) (hl : S.size ≤ 281474976710656) (hn : I64 n) (he : s = []) (hR : Hid (numR (digs 2 s) = (n, false))) :
    Calls Tryz.prog 92 #[.int .i64 2, .string S] w fun e w' => e = .returned (.tuple #[.agg #[.int .i64 0, .int .i64 0], .int .i64 21]) ∧ Keep NoB w w' := by
  have hz := size_of hs.out
  have q1 : (S.toList == []) = true := by rw [ByteArray.toList_eq, hs.out, he]; rfl
  have hz0 : S.size = 0 := by rw [hz, he]; rfl
  obtain ⟨hn0, hn1⟩ := hn
  have HD : Hid (S.data.toList = digs 2 s) := by show _ = _; unfold digs; rw [if_pos (by decide), hs.out, he]; rfl
  have HN := Lib.hid (fun W => number_any S _ W HD hl)
  rw [hR.out] at HN
  have hB := Blk.new w 146 #[.int .i64 0, .int .i64 0]
  have hK := (Keep.refl NoB w).alloc (.cells #[.int .i64 0, .int .i64 0] 146)
  clear he
  clear hz hR
  go_enter Tryz.func92, Tryz.ntmps92
  go_wp2_with (first | (go_at_call 115; refine (rknown_any _ _).mono ?_; rintro e w' ⟨rfl, rfl⟩) | fail)
  refine (HN.out _).mono ?_
  rintro e w2 ⟨rfl, rfl⟩
  go_wp2
  refine bodyPost_ret (v := .tuple #[.agg #[.int .i64 0, .int .i64 0], .int .i64 21]) (by simp [results, Tryz.results92, go_sem]) rfl ⟨rfl, ?_⟩
  exact hK.alloc _

set_option maxRecDepth 100000 in
set_option maxHeartbeats 8000000 in
theorem rread_2_amp (S : ByteArray) (s : List UInt8) (n : Int) (w : World) (hs : Hid (S.data.toList = s)) (hl : S.size ≤ 281474976710656) (hn : I64 n) (he : s = [38]) (hR : Hid (numR (digs 2 s) = (n, false))) :
    Calls Tryz.prog 92 #[.int .i64 2, .string S] w fun e w' => e = .returned (.tuple #[.agg #[.int .i64 0, .int .i64 0], .int .i64 21]) ∧ Keep NoB w w' := by
  have hz := size_of hs.out
  have q1 : (S.toList == []) = false := by rw [ByteArray.toList_eq, hs.out, he]; rfl
  have q2 : (S.toList == [38]) = true := by rw [ByteArray.toList_eq, hs.out, he]; rfl
  have hz0 : 0 < S.size := by rw [hz, he]; decide
  obtain ⟨hn0, hn1⟩ := hn
  obtain ⟨DD, hDD⟩ : ∃ DD, S.extract 1 S.size = DD := ⟨_, rfl⟩
  have HD : Hid (DD.data.toList = digs 2 s) := by show _ = _; rw [← hDD]; unfold digs; rw [if_pos (by decide)]; exact extract_drop hs.out
  have HDl : DD.size ≤ 281474976710656 := by rw [size_of HD.out]; unfold digs; rw [if_pos (by decide), List.length_drop]; omega
  have HN := Lib.hid (fun W => number_any DD _ W HD HDl)
  rw [hR.out] at HN
  have hB := Blk.new w 146 #[.int .i64 0, .int .i64 0]
  have hK := (Keep.refl NoB w).alloc (.cells #[.int .i64 0, .int .i64 0] 146)
  clear he
  clear hz hR
  go_enter Tryz.func92, Tryz.ntmps92
  go_wp2_with (first | (go_at_call 115; refine (rknown_any _ _).mono ?_; rintro e w' ⟨rfl, rfl⟩) | fail)
  refine (HN.out _).mono ?_
  rintro e w2 ⟨rfl, rfl⟩
  go_wp2
  refine bodyPost_ret (v := .tuple #[.agg #[.int .i64 0, .int .i64 0], .int .i64 21]) (by simp [results, Tryz.results92, go_sem]) rfl ⟨rfl, ?_⟩
  exact hK.alloc _

set_option maxRecDepth 100000 in
set_option maxHeartbeats 8000000 in
theorem rread_2_f (S : ByteArray) (s : List UInt8) (n : Int) (w : World) (hs : Hid (S.data.toList = s)) (hl : S.size ≤ 281474976710656) (hn : I64 n) (hne : s ≠ []) (hamp : s ≠ [38]) (hR : Hid (numR (digs 2 s) = (n, false))) :
    Calls Tryz.prog 92 #[.int .i64 2, .string S] w fun e w' => e = .returned (rOut 2 (0) s) ∧ Keep NoB w w' := by
  have hz := size_of hs.out
  have q1 : (S.toList == []) = false := by rw [ByteArray.toList_eq, hs.out, beq_eq_false_iff_ne]; exact hne
  have q2 : (S.toList == [38]) = false := by rw [ByteArray.toList_eq, hs.out, beq_eq_false_iff_ne]; exact hamp
  have hz0 : 0 < S.size := by rw [hz]; exact List.length_pos_iff.2 hne
  obtain ⟨hn0, hn1⟩ := hn
  obtain ⟨DD, hDD⟩ : ∃ DD, S.extract 1 S.size = DD := ⟨_, rfl⟩
  have HD : Hid (DD.data.toList = digs 2 s) := by show _ = _; rw [← hDD]; unfold digs; rw [if_pos (by decide)]; exact extract_drop hs.out
  have HDl : DD.size ≤ 281474976710656 := by rw [size_of HD.out]; unfold digs; rw [if_pos (by decide), List.length_drop]; omega
  have HN := Lib.hid (fun W => number_any DD _ W HD HDl)
  rw [hR.out] at HN
  have hB := Blk.new w 146 #[.int .i64 0, .int .i64 0]
  have hK := (Keep.refl NoB w).alloc (.cells #[.int .i64 0, .int .i64 0] 146)
  clear hne
  clear hamp
  clear hz hR
  have HS := Lib.hid (fun W => rshow_any 2 (0) W ⟨by omega, by omega⟩)
  by_cases hq : showL 2 (0) = s
  · have q4 : (showL 2 (0) == S.toList) = true := by rw [ByteArray.toList_eq, hs.out, beq_iff_eq]; exact hq
    rw [rOut_ok hq]
    clear hq
    go_enter Tryz.func92, Tryz.ntmps92
    go_wp2_with (first | (go_at_call 115; refine (rknown_any _ _).mono ?_; rintro e w' ⟨rfl, rfl⟩) | fail)
    refine (HN.out _).mono ?_
    rintro e w2 ⟨rfl, rfl⟩
    go_wp2_with fail
    refine (HS.out _).mono ?_
    rintro e w5 ⟨rfl, hk5⟩
    have hK5 := keepN (hK.alloc _) hk5
    have b2 := Blk.new (w.alloc (.cells #[.int .i64 0, .int .i64 0] 146)) 146 #[.int .i64 2, .int .i64 (0)]
    rw [show (w.alloc (.cells #[.int .i64 0, .int .i64 0] 146)).heap.size = w.heap.size + 1 by simp] at b2
    have b4 := (hB.keep ((Keep.refl NoB _).alloc _) id).keep hk5 id
    have b5 := b2.keep hk5 id
    have hz4 := b4.lt
    have hz5 := b5.lt
    have c0 : w5.cell? ⟨w.heap.size, 0, none⟩ = some (.int .i64 0) := b4.cell 0
    have c1 : w5.cell? ⟨w.heap.size, 1, none⟩ = some (.int .i64 0) := b4.cell 1
    have f0 := b4.frozen 0
    have f1 := b4.frozen 1
    have d0 : w5.cell? ⟨w.heap.size + 1, 0, none⟩ = some (.int .i64 2) := b5.cell 0
    have d1 : w5.cell? ⟨w.heap.size + 1, 1, none⟩ = some (.int .i64 (0)) := b5.cell 1
    clear HS HN hB b2 b4 b5
    go_wp2
    refine bodyPost_ret (v := .tuple #[.agg #[.int .i64 2, .int .i64 (0)], .int .i64 0]) ?_ rfl ⟨rfl, keep_out w w5 _ hK5 (Nat.le_refl _) _ _⟩
    simp [results, Tryz.results92, go_sem, c0, c1]
  · have q4 : (showL 2 (0) == S.toList) = false := by rw [ByteArray.toList_eq, hs.out, beq_eq_false_iff_ne]; exact hq
    rw [rOut_no hq]
    clear hq
    go_enter Tryz.func92, Tryz.ntmps92
    go_wp2_with (first | (go_at_call 115; refine (rknown_any _ _).mono ?_; rintro e w' ⟨rfl, rfl⟩) | fail)
    refine (HN.out _).mono ?_
    rintro e w2 ⟨rfl, rfl⟩
    go_wp2_with fail
    refine (HS.out _).mono ?_
    rintro e w5 ⟨rfl, hk5⟩
    have hK5 := keepN (hK.alloc _) hk5
    have b2 := Blk.new (w.alloc (.cells #[.int .i64 0, .int .i64 0] 146)) 146 #[.int .i64 2, .int .i64 (0)]
    rw [show (w.alloc (.cells #[.int .i64 0, .int .i64 0] 146)).heap.size = w.heap.size + 1 by simp] at b2
    have b4 := (hB.keep ((Keep.refl NoB _).alloc _) id).keep hk5 id
    have b5 := b2.keep hk5 id
    have hz4 := b4.lt
    have hz5 := b5.lt
    have c0 : w5.cell? ⟨w.heap.size, 0, none⟩ = some (.int .i64 0) := b4.cell 0
    have c1 : w5.cell? ⟨w.heap.size, 1, none⟩ = some (.int .i64 0) := b4.cell 1
    have f0 := b4.frozen 0
    have f1 := b4.frozen 1
    have d0 : w5.cell? ⟨w.heap.size + 1, 0, none⟩ = some (.int .i64 2) := b5.cell 0
    have d1 : w5.cell? ⟨w.heap.size + 1, 1, none⟩ = some (.int .i64 (0)) := b5.cell 1
    clear HS HN hB b2 b4 b5
    go_wp2
    refine bodyPost_ret (v := .tuple #[.agg #[.int .i64 0, .int .i64 0], .int .i64 21]) ?_ rfl ⟨rfl, keep_out w w5 _ hK5 (Nat.le_refl _) _ _⟩
    simp [results, Tryz.results92, go_sem, c0, c1]

set_option maxRecDepth 100000 in
set_option maxHeartbeats 8000000 in
theorem rread_2_t (S : ByteArray) (s : List UInt8) (n : Int) (w : World) (hs : Hid (S.data.toList = s)) (hl : S.size ≤ 281474976710656) (hn : I64 n) (hnil : s ≠ [110, 105, 108]) (hne : s ≠ []) (hamp : s ≠ [38]) (hR : Hid (numR (digs 2 s) = (n, true))) :
    Calls Tryz.prog 92 #[.int .i64 2, .string S] w fun e w' => e = .returned (rOut 2 (n) s) ∧ Keep NoB w w' := by
  have hz := size_of hs.out
  have q1 : (S.toList == []) = false := by rw [ByteArray.toList_eq, hs.out, beq_eq_false_iff_ne]; exact hne
  have q2 : (S.toList == [38]) = false := by rw [ByteArray.toList_eq, hs.out, beq_eq_false_iff_ne]; exact hamp
  have hz0 : 0 < S.size := by rw [hz]; exact List.length_pos_iff.2 hne
  have q3 : (S.toList == [110, 105, 108]) = false := by rw [ByteArray.toList_eq, hs.out, beq_eq_false_iff_ne]; exact hnil
  obtain ⟨hn0, hn1⟩ := hn
  obtain ⟨DD, hDD⟩ : ∃ DD, S.extract 1 S.size = DD := ⟨_, rfl⟩
  have HD : Hid (DD.data.toList = digs 2 s) := by show _ = _; rw [← hDD]; unfold digs; rw [if_pos (by decide)]; exact extract_drop hs.out
  have HDl : DD.size ≤ 281474976710656 := by rw [size_of HD.out]; unfold digs; rw [if_pos (by decide), List.length_drop]; omega
  have HN := Lib.hid (fun W => number_any DD _ W HD HDl)
  rw [hR.out] at HN
  have hB := Blk.new w 146 #[.int .i64 0, .int .i64 0]
  have hK := (Keep.refl NoB w).alloc (.cells #[.int .i64 0, .int .i64 0] 146)
  clear hne
  clear hamp
  clear hnil
  clear hz hR
  have HS := Lib.hid (fun W => rshow_any 2 (n) W ⟨by omega, by omega⟩)
  by_cases hq : showL 2 (n) = s
  · have q4 : (showL 2 (n) == S.toList) = true := by rw [ByteArray.toList_eq, hs.out, beq_iff_eq]; exact hq
    rw [rOut_ok hq]
    clear hq
    go_enter Tryz.func92, Tryz.ntmps92
    go_wp2_with (first | (go_at_call 115; refine (rknown_any _ _).mono ?_; rintro e w' ⟨rfl, rfl⟩) | fail)
    refine (HN.out _).mono ?_
    rintro e w2 ⟨rfl, rfl⟩
    go_wp2_with fail
    refine (HS.out _).mono ?_
    rintro e w5 ⟨rfl, hk5⟩
    have hK5 := keepN (hK.alloc _) hk5
    have b2 := Blk.new (w.alloc (.cells #[.int .i64 0, .int .i64 0] 146)) 146 #[.int .i64 2, .int .i64 (n)]
    rw [show (w.alloc (.cells #[.int .i64 0, .int .i64 0] 146)).heap.size = w.heap.size + 1 by simp] at b2
    have b4 := (hB.keep ((Keep.refl NoB _).alloc _) id).keep hk5 id
    have b5 := b2.keep hk5 id
    have hz4 := b4.lt
    have hz5 := b5.lt
    have c0 : w5.cell? ⟨w.heap.size, 0, none⟩ = some (.int .i64 0) := b4.cell 0
    have c1 : w5.cell? ⟨w.heap.size, 1, none⟩ = some (.int .i64 0) := b4.cell 1
    have f0 := b4.frozen 0
    have f1 := b4.frozen 1
    have d0 : w5.cell? ⟨w.heap.size + 1, 0, none⟩ = some (.int .i64 2) := b5.cell 0
    have d1 : w5.cell? ⟨w.heap.size + 1, 1, none⟩ = some (.int .i64 (n)) := b5.cell 1
    clear HS HN hB b2 b4 b5
    go_wp2
    refine bodyPost_ret (v := .tuple #[.agg #[.int .i64 2, .int .i64 (n)], .int .i64 0]) ?_ rfl ⟨rfl, keep_out w w5 _ hK5 (Nat.le_refl _) _ _⟩
    simp [results, Tryz.results92, go_sem, c0, c1]
  · have q4 : (showL 2 (n) == S.toList) = false := by rw [ByteArray.toList_eq, hs.out, beq_eq_false_iff_ne]; exact hq
    rw [rOut_no hq]
    clear hq
    go_enter Tryz.func92, Tryz.ntmps92
    go_wp2_with (first | (go_at_call 115; refine (rknown_any _ _).mono ?_; rintro e w' ⟨rfl, rfl⟩) | fail)
    refine (HN.out _).mono ?_
    rintro e w2 ⟨rfl, rfl⟩
    go_wp2_with fail
    refine (HS.out _).mono ?_
    rintro e w5 ⟨rfl, hk5⟩
    have hK5 := keepN (hK.alloc _) hk5
    have b2 := Blk.new (w.alloc (.cells #[.int .i64 0, .int .i64 0] 146)) 146 #[.int .i64 2, .int .i64 (n)]
    rw [show (w.alloc (.cells #[.int .i64 0, .int .i64 0] 146)).heap.size = w.heap.size + 1 by simp] at b2
    have b4 := (hB.keep ((Keep.refl NoB _).alloc _) id).keep hk5 id
    have b5 := b2.keep hk5 id
    have hz4 := b4.lt
    have hz5 := b5.lt
    have c0 : w5.cell? ⟨w.heap.size, 0, none⟩ = some (.int .i64 0) := b4.cell 0
    have c1 : w5.cell? ⟨w.heap.size, 1, none⟩ = some (.int .i64 0) := b4.cell 1
    have f0 := b4.frozen 0
    have f1 := b4.frozen 1
    have d0 : w5.cell? ⟨w.heap.size + 1, 0, none⟩ = some (.int .i64 2) := b5.cell 0
    have d1 : w5.cell? ⟨w.heap.size + 1, 1, none⟩ = some (.int .i64 (n)) := b5.cell 1
    clear HS HN hB b2 b4 b5
    go_wp2
    refine bodyPost_ret (v := .tuple #[.agg #[.int .i64 0, .int .i64 0], .int .i64 21]) ?_ rfl ⟨rfl, keep_out w w5 _ hK5 (Nat.le_refl _) _ _⟩
    simp [results, Tryz.results92, go_sem, c0, c1]

set_option maxRecDepth 100000 in
set_option maxHeartbeats 8000000 in
theorem rread_3_none (S : ByteArray) (s : List UInt8) (n : Int) (w : World) (hs : Hid (S.data.toList = s)) (hl : S.size ≤ 281474976710656) (hn : I64 n) (he : s = []) (hR : Hid (numR (digs 3 s) = (n, false))) :
    Calls Tryz.prog 92 #[.int .i64 3, .string S] w fun e w' => e = .returned (.tuple #[.agg #[.int .i64 0, .int .i64 0], .int .i64 21]) ∧ Keep NoB w w' := by
  have hz := size_of hs.out
  have q1 : (S.toList == []) = true := by rw [ByteArray.toList_eq, hs.out, he]; rfl
  have hz0 : S.size = 0 := by rw [hz, he]; rfl
  obtain ⟨hn0, hn1⟩ := hn
  have HD : Hid (S.data.toList = digs 3 s) := by show _ = _; unfold digs; rw [if_pos (by decide), hs.out, he]; rfl
  have HN := Lib.hid (fun W => number_any S _ W HD hl)
  rw [hR.out] at HN
  have hB := Blk.new w 146 #[.int .i64 0, .int .i64 0]
  have hK := (Keep.refl NoB w).alloc (.cells #[.int .i64 0, .int .i64 0] 146)
  clear he
  clear hz hR
  go_enter Tryz.func92, Tryz.ntmps92
  go_wp2_with (first | (go_at_call 115; refine (rknown_any _ _).mono ?_; rintro e w' ⟨rfl, rfl⟩) | fail)
  refine (HN.out _).mono ?_
  rintro e w2 ⟨rfl, rfl⟩
  go_wp2
  refine bodyPost_ret (v := .tuple #[.agg #[.int .i64 0, .int .i64 0], .int .i64 21]) (by simp [results, Tryz.results92, go_sem]) rfl ⟨rfl, ?_⟩
  exact hK.alloc _

set_option maxRecDepth 100000 in
set_option maxHeartbeats 8000000 in
theorem rread_3_amp (S : ByteArray) (s : List UInt8) (n : Int) (w : World) (hs : Hid (S.data.toList = s)) (hl : S.size ≤ 281474976710656) (hn : I64 n) (he : s = [38]) (hR : Hid (numR (digs 3 s) = (n, false))) :
    Calls Tryz.prog 92 #[.int .i64 3, .string S] w fun e w' => e = .returned (.tuple #[.agg #[.int .i64 0, .int .i64 0], .int .i64 21]) ∧ Keep NoB w w' := by
  have hz := size_of hs.out
  have q1 : (S.toList == []) = false := by rw [ByteArray.toList_eq, hs.out, he]; rfl
  have q2 : (S.toList == [38]) = true := by rw [ByteArray.toList_eq, hs.out, he]; rfl
  have hz0 : 0 < S.size := by rw [hz, he]; decide
  obtain ⟨hn0, hn1⟩ := hn
  obtain ⟨DD, hDD⟩ : ∃ DD, S.extract 1 S.size = DD := ⟨_, rfl⟩
  have HD : Hid (DD.data.toList = digs 3 s) := by show _ = _; rw [← hDD]; unfold digs; rw [if_pos (by decide)]; exact extract_drop hs.out
  have HDl : DD.size ≤ 281474976710656 := by rw [size_of HD.out]; unfold digs; rw [if_pos (by decide), List.length_drop]; omega
  have HN := Lib.hid (fun W => number_any DD _ W HD HDl)
  rw [hR.out] at HN
  have hB := Blk.new w 146 #[.int .i64 0, .int .i64 0]
  have hK := (Keep.refl NoB w).alloc (.cells #[.int .i64 0, .int .i64 0] 146)
  clear he
  clear hz hR
  go_enter Tryz.func92, Tryz.ntmps92
  go_wp2_with (first | (go_at_call 115; refine (rknown_any _ _).mono ?_; rintro e w' ⟨rfl, rfl⟩) | fail)
  refine (HN.out _).mono ?_
  rintro e w2 ⟨rfl, rfl⟩
  go_wp2
  refine bodyPost_ret (v := .tuple #[.agg #[.int .i64 0, .int .i64 0], .int .i64 21]) (by simp [results, Tryz.results92, go_sem]) rfl ⟨rfl, ?_⟩
  exact hK.alloc _

set_option maxRecDepth 100000 in
set_option maxHeartbeats 8000000 in
theorem rread_3_f (S : ByteArray) (s : List UInt8) (n : Int) (w : World) (hs : Hid (S.data.toList = s)) (hl : S.size ≤ 281474976710656) (hn : I64 n) (hne : s ≠ []) (hamp : s ≠ [38]) (hR : Hid (numR (digs 3 s) = (n, false))) :
    Calls Tryz.prog 92 #[.int .i64 3, .string S] w fun e w' => e = .returned (rOut 3 (0) s) ∧ Keep NoB w w' := by
  have hz := size_of hs.out
  have q1 : (S.toList == []) = false := by rw [ByteArray.toList_eq, hs.out, beq_eq_false_iff_ne]; exact hne
  have q2 : (S.toList == [38]) = false := by rw [ByteArray.toList_eq, hs.out, beq_eq_false_iff_ne]; exact hamp
  have hz0 : 0 < S.size := by rw [hz]; exact List.length_pos_iff.2 hne
  obtain ⟨hn0, hn1⟩ := hn
  obtain ⟨DD, hDD⟩ : ∃ DD, S.extract 1 S.size = DD := ⟨_, rfl⟩
  have HD : Hid (DD.data.toList = digs 3 s) := by show _ = _; rw [← hDD]; unfold digs; rw [if_pos (by decide)]; exact extract_drop hs.out
  have HDl : DD.size ≤ 281474976710656 := by rw [size_of HD.out]; unfold digs; rw [if_pos (by decide), List.length_drop]; omega
  have HN := Lib.hid (fun W => number_any DD _ W HD HDl)
  rw [hR.out] at HN
  have hB := Blk.new w 146 #[.int .i64 0, .int .i64 0]
  have hK := (Keep.refl NoB w).alloc (.cells #[.int .i64 0, .int .i64 0] 146)
  clear hne
  clear hamp
  clear hz hR
  have HS := Lib.hid (fun W => rshow_any 3 (0) W ⟨by omega, by omega⟩)
  by_cases hq : showL 3 (0) = s
  · have q4 : (showL 3 (0) == S.toList) = true := by rw [ByteArray.toList_eq, hs.out, beq_iff_eq]; exact hq
    rw [rOut_ok hq]
    clear hq
    go_enter Tryz.func92, Tryz.ntmps92
    go_wp2_with (first | (go_at_call 115; refine (rknown_any _ _).mono ?_; rintro e w' ⟨rfl, rfl⟩) | fail)
    refine (HN.out _).mono ?_
    rintro e w2 ⟨rfl, rfl⟩
    go_wp2_with fail
    refine (HS.out _).mono ?_
    rintro e w5 ⟨rfl, hk5⟩
    have hK5 := keepN (hK.alloc _) hk5
    have b2 := Blk.new (w.alloc (.cells #[.int .i64 0, .int .i64 0] 146)) 146 #[.int .i64 3, .int .i64 (0)]
    rw [show (w.alloc (.cells #[.int .i64 0, .int .i64 0] 146)).heap.size = w.heap.size + 1 by simp] at b2
    have b4 := (hB.keep ((Keep.refl NoB _).alloc _) id).keep hk5 id
    have b5 := b2.keep hk5 id
    have hz4 := b4.lt
    have hz5 := b5.lt
    have c0 : w5.cell? ⟨w.heap.size, 0, none⟩ = some (.int .i64 0) := b4.cell 0
    have c1 : w5.cell? ⟨w.heap.size, 1, none⟩ = some (.int .i64 0) := b4.cell 1
    have f0 := b4.frozen 0
    have f1 := b4.frozen 1
    have d0 : w5.cell? ⟨w.heap.size + 1, 0, none⟩ = some (.int .i64 3) := b5.cell 0
    have d1 : w5.cell? ⟨w.heap.size + 1, 1, none⟩ = some (.int .i64 (0)) := b5.cell 1
    clear HS HN hB b2 b4 b5
    go_wp2
    refine bodyPost_ret (v := .tuple #[.agg #[.int .i64 3, .int .i64 (0)], .int .i64 0]) ?_ rfl ⟨rfl, keep_out w w5 _ hK5 (Nat.le_refl _) _ _⟩
    simp [results, Tryz.results92, go_sem, c0, c1]
  · have q4 : (showL 3 (0) == S.toList) = false := by rw [ByteArray.toList_eq, hs.out, beq_eq_false_iff_ne]; exact hq
    rw [rOut_no hq]
    clear hq
    go_enter Tryz.func92, Tryz.ntmps92
    go_wp2_with (first | (go_at_call 115; refine (rknown_any _ _).mono ?_; rintro e w' ⟨rfl, rfl⟩) | fail)
    refine (HN.out _).mono ?_
    rintro e w2 ⟨rfl, rfl⟩
    go_wp2_with fail
    refine (HS.out _).mono ?_
    rintro e w5 ⟨rfl, hk5⟩
    have hK5 := keepN (hK.alloc _) hk5
    have b2 := Blk.new (w.alloc (.cells #[.int .i64 0, .int .i64 0] 146)) 146 #[.int .i64 3, .int .i64 (0)]
    rw [show (w.alloc (.cells #[.int .i64 0, .int .i64 0] 146)).heap.size = w.heap.size + 1 by simp] at b2
    have b4 := (hB.keep ((Keep.refl NoB _).alloc _) id).keep hk5 id
    have b5 := b2.keep hk5 id
    have hz4 := b4.lt
    have hz5 := b5.lt
    have c0 : w5.cell? ⟨w.heap.size, 0, none⟩ = some (.int .i64 0) := b4.cell 0
    have c1 : w5.cell? ⟨w.heap.size, 1, none⟩ = some (.int .i64 0) := b4.cell 1
    have f0 := b4.frozen 0
    have f1 := b4.frozen 1
    have d0 : w5.cell? ⟨w.heap.size + 1, 0, none⟩ = some (.int .i64 3) := b5.cell 0
    have d1 : w5.cell? ⟨w.heap.size + 1, 1, none⟩ = some (.int .i64 (0)) := b5.cell 1
    clear HS HN hB b2 b4 b5
    go_wp2
    refine bodyPost_ret (v := .tuple #[.agg #[.int .i64 0, .int .i64 0], .int .i64 21]) ?_ rfl ⟨rfl, keep_out w w5 _ hK5 (Nat.le_refl _) _ _⟩
    simp [results, Tryz.results92, go_sem, c0, c1]

set_option maxRecDepth 100000 in
set_option maxHeartbeats 8000000 in
theorem rread_3_t (S : ByteArray) (s : List UInt8) (n : Int) (w : World) (hs : Hid (S.data.toList = s)) (hl : S.size ≤ 281474976710656) (hn : I64 n) (hnil : s ≠ [110, 105, 108]) (hlt : n < 9223372036854775807) (hne : s ≠ []) (hamp : s ≠ [38]) (hR : Hid (numR (digs 3 s) = (n, true))) :
    Calls Tryz.prog 92 #[.int .i64 3, .string S] w fun e w' => e = .returned (rOut 3 (n + 1) s) ∧ Keep NoB w w' := by
  have hz := size_of hs.out
  have q1 : (S.toList == []) = false := by rw [ByteArray.toList_eq, hs.out, beq_eq_false_iff_ne]; exact hne
  have q2 : (S.toList == [38]) = false := by rw [ByteArray.toList_eq, hs.out, beq_eq_false_iff_ne]; exact hamp
  have hz0 : 0 < S.size := by rw [hz]; exact List.length_pos_iff.2 hne
  have q3 : (S.toList == [110, 105, 108]) = false := by rw [ByteArray.toList_eq, hs.out, beq_eq_false_iff_ne]; exact hnil
  obtain ⟨hn0, hn1⟩ := hn
  obtain ⟨DD, hDD⟩ : ∃ DD, S.extract 1 S.size = DD := ⟨_, rfl⟩
  have HD : Hid (DD.data.toList = digs 3 s) := by show _ = _; rw [← hDD]; unfold digs; rw [if_pos (by decide)]; exact extract_drop hs.out
  have HDl : DD.size ≤ 281474976710656 := by rw [size_of HD.out]; unfold digs; rw [if_pos (by decide), List.length_drop]; omega
  have HN := Lib.hid (fun W => number_any DD _ W HD HDl)
  rw [hR.out] at HN
  have hB := Blk.new w 146 #[.int .i64 0, .int .i64 0]
  have hK := (Keep.refl NoB w).alloc (.cells #[.int .i64 0, .int .i64 0] 146)
  clear hne
  clear hamp
  clear hnil
  clear hz hR
  have HS := Lib.hid (fun W => rshow_any 3 (n + 1) W ⟨by omega, by omega⟩)
  by_cases hq : showL 3 (n + 1) = s
  · have q4 : (showL 3 (n + 1) == S.toList) = true := by rw [ByteArray.toList_eq, hs.out, beq_iff_eq]; exact hq
    rw [rOut_ok hq]
    clear hq
    go_enter Tryz.func92, Tryz.ntmps92
    go_wp2_with (first | (go_at_call 115; refine (rknown_any _ _).mono ?_; rintro e w' ⟨rfl, rfl⟩) | fail)
    refine (HN.out _).mono ?_
    rintro e w2 ⟨rfl, rfl⟩
    go_wp2_with fail
    refine (HS.out _).mono ?_
    rintro e w5 ⟨rfl, hk5⟩
    have hK5 := keepN (hK.alloc _) hk5
    have b2 := Blk.new (w.alloc (.cells #[.int .i64 0, .int .i64 0] 146)) 146 #[.int .i64 3, .int .i64 (n + 1)]
    rw [show (w.alloc (.cells #[.int .i64 0, .int .i64 0] 146)).heap.size = w.heap.size + 1 by simp] at b2
    have b4 := (hB.keep ((Keep.refl NoB _).alloc _) id).keep hk5 id
    have b5 := b2.keep hk5 id
    have hz4 := b4.lt
    have hz5 := b5.lt
    have c0 : w5.cell? ⟨w.heap.size, 0, none⟩ = some (.int .i64 0) := b4.cell 0
    have c1 : w5.cell? ⟨w.heap.size, 1, none⟩ = some (.int .i64 0) := b4.cell 1
    have f0 := b4.frozen 0
    have f1 := b4.frozen 1
    have d0 : w5.cell? ⟨w.heap.size + 1, 0, none⟩ = some (.int .i64 3) := b5.cell 0
    have d1 : w5.cell? ⟨w.heap.size + 1, 1, none⟩ = some (.int .i64 (n + 1)) := b5.cell 1
    clear HS HN hB b2 b4 b5
    go_wp2
    refine bodyPost_ret (v := .tuple #[.agg #[.int .i64 3, .int .i64 (n + 1)], .int .i64 0]) ?_ rfl ⟨rfl, keep_out w w5 _ hK5 (Nat.le_refl _) _ _⟩
    simp [results, Tryz.results92, go_sem, c0, c1]
  · have q4 : (showL 3 (n + 1) == S.toList) = false := by rw [ByteArray.toList_eq, hs.out, beq_eq_false_iff_ne]; exact hq
    rw [rOut_no hq]
    clear hq
    go_enter Tryz.func92, Tryz.ntmps92
    go_wp2_with (first | (go_at_call 115; refine (rknown_any _ _).mono ?_; rintro e w' ⟨rfl, rfl⟩) | fail)
    refine (HN.out _).mono ?_
    rintro e w2 ⟨rfl, rfl⟩
    go_wp2_with fail
    refine (HS.out _).mono ?_
    rintro e w5 ⟨rfl, hk5⟩
    have hK5 := keepN (hK.alloc _) hk5
    have b2 := Blk.new (w.alloc (.cells #[.int .i64 0, .int .i64 0] 146)) 146 #[.int .i64 3, .int .i64 (n + 1)]
    rw [show (w.alloc (.cells #[.int .i64 0, .int .i64 0] 146)).heap.size = w.heap.size + 1 by simp] at b2
    have b4 := (hB.keep ((Keep.refl NoB _).alloc _) id).keep hk5 id
    have b5 := b2.keep hk5 id
    have hz4 := b4.lt
    have hz5 := b5.lt
    have c0 : w5.cell? ⟨w.heap.size, 0, none⟩ = some (.int .i64 0) := b4.cell 0
    have c1 : w5.cell? ⟨w.heap.size, 1, none⟩ = some (.int .i64 0) := b4.cell 1
    have f0 := b4.frozen 0
    have f1 := b4.frozen 1
    have d0 : w5.cell? ⟨w.heap.size + 1, 0, none⟩ = some (.int .i64 3) := b5.cell 0
    have d1 : w5.cell? ⟨w.heap.size + 1, 1, none⟩ = some (.int .i64 (n + 1)) := b5.cell 1
    clear HS HN hB b2 b4 b5
    go_wp2
    refine bodyPost_ret (v := .tuple #[.agg #[.int .i64 0, .int .i64 0], .int .i64 21]) ?_ rfl ⟨rfl, keep_out w w5 _ hK5 (Nat.le_refl _) _ _⟩
    simp [results, Tryz.results92, go_sem, c0, c1]

set_option maxRecDepth 100000 in
set_option maxHeartbeats 8000000 in
theorem rread_3_m (S : ByteArray) (s : List UInt8) (n : Int) (w : World) (hs : Hid (S.data.toList = s)) (hl : S.size ≤ 281474976710656) (hn : I64 n) (hnil : s ≠ [110, 105, 108]) (hlt : ¬ n < 9223372036854775807) (hne : s ≠ []) (hamp : s ≠ [38]) (hR : Hid (numR (digs 3 s) = (n, true))) :
    Calls Tryz.prog 92 #[.int .i64 3, .string S] w fun e w' => e = .returned (rOut 3 (n) s) ∧ Keep NoB w w' := by
  have hz := size_of hs.out
  have q1 : (S.toList == []) = false := by rw [ByteArray.toList_eq, hs.out, beq_eq_false_iff_ne]; exact hne
  have q2 : (S.toList == [38]) = false := by rw [ByteArray.toList_eq, hs.out, beq_eq_false_iff_ne]; exact hamp
  have hz0 : 0 < S.size := by rw [hz]; exact List.length_pos_iff.2 hne
  have q3 : (S.toList == [110, 105, 108]) = false := by rw [ByteArray.toList_eq, hs.out, beq_eq_false_iff_ne]; exact hnil
  obtain ⟨hn0, hn1⟩ := hn
  obtain ⟨DD, hDD⟩ : ∃ DD, S.extract 1 S.size = DD := ⟨_, rfl⟩
  have HD : Hid (DD.data.toList = digs 3 s) := by show _ = _; rw [← hDD]; unfold digs; rw [if_pos (by decide)]; exact extract_drop hs.out
  have HDl : DD.size ≤ 281474976710656 := by rw [size_of HD.out]; unfold digs; rw [if_pos (by decide), List.length_drop]; omega
  have HN := Lib.hid (fun W => number_any DD _ W HD HDl)
  rw [hR.out] at HN
  have hB := Blk.new w 146 #[.int .i64 0, .int .i64 0]
  have hK := (Keep.refl NoB w).alloc (.cells #[.int .i64 0, .int .i64 0] 146)
  clear hne
  clear hamp
  clear hnil
  clear hz hR
  have HS := Lib.hid (fun W => rshow_any 3 (n) W ⟨by omega, by omega⟩)
  by_cases hq : showL 3 (n) = s
  · have q4 : (showL 3 (n) == S.toList) = true := by rw [ByteArray.toList_eq, hs.out, beq_iff_eq]; exact hq
    rw [rOut_ok hq]
    clear hq
    go_enter Tryz.func92, Tryz.ntmps92
    go_wp2_with (first | (go_at_call 115; refine (rknown_any _ _).mono ?_; rintro e w' ⟨rfl, rfl⟩) | fail)
    refine (HN.out _).mono ?_
    rintro e w2 ⟨rfl, rfl⟩
    go_wp2_with fail
    refine (HS.out _).mono ?_
    rintro e w5 ⟨rfl, hk5⟩
    have hK5 := keepN (hK.alloc _) hk5
    have b2 := Blk.new (w.alloc (.cells #[.int .i64 0, .int .i64 0] 146)) 146 #[.int .i64 3, .int .i64 (n)]
    rw [show (w.alloc (.cells #[.int .i64 0, .int .i64 0] 146)).heap.size = w.heap.size + 1 by simp] at b2
    have b4 := (hB.keep ((Keep.refl NoB _).alloc _) id).keep hk5 id
    have b5 := b2.keep hk5 id
    have hz4 := b4.lt
    have hz5 := b5.lt
    have c0 : w5.cell? ⟨w.heap.size, 0, none⟩ = some (.int .i64 0) := b4.cell 0
    have c1 : w5.cell? ⟨w.heap.size, 1, none⟩ = some (.int .i64 0) := b4.cell 1
    have f0 := b4.frozen 0
    have f1 := b4.frozen 1
    have d0 : w5.cell? ⟨w.heap.size + 1, 0, none⟩ = some (.int .i64 3) := b5.cell 0
    have d1 : w5.cell? ⟨w.heap.size + 1, 1, none⟩ = some (.int .i64 (n)) := b5.cell 1
    clear HS HN hB b2 b4 b5
    go_wp2
    refine bodyPost_ret (v := .tuple #[.agg #[.int .i64 3, .int .i64 (n)], .int .i64 0]) ?_ rfl ⟨rfl, keep_out w w5 _ hK5 (Nat.le_refl _) _ _⟩
    simp [results, Tryz.results92, go_sem, c0, c1]
  · have q4 : (showL 3 (n) == S.toList) = false := by rw [ByteArray.toList_eq, hs.out, beq_eq_false_iff_ne]; exact hq
    rw [rOut_no hq]
    clear hq
    go_enter Tryz.func92, Tryz.ntmps92
    go_wp2_with (first | (go_at_call 115; refine (rknown_any _ _).mono ?_; rintro e w' ⟨rfl, rfl⟩) | fail)
    refine (HN.out _).mono ?_
    rintro e w2 ⟨rfl, rfl⟩
    go_wp2_with fail
    refine (HS.out _).mono ?_
    rintro e w5 ⟨rfl, hk5⟩
    have hK5 := keepN (hK.alloc _) hk5
    have b2 := Blk.new (w.alloc (.cells #[.int .i64 0, .int .i64 0] 146)) 146 #[.int .i64 3, .int .i64 (n)]
    rw [show (w.alloc (.cells #[.int .i64 0, .int .i64 0] 146)).heap.size = w.heap.size + 1 by simp] at b2
    have b4 := (hB.keep ((Keep.refl NoB _).alloc _) id).keep hk5 id
    have b5 := b2.keep hk5 id
    have hz4 := b4.lt
    have hz5 := b5.lt
    have c0 : w5.cell? ⟨w.heap.size, 0, none⟩ = some (.int .i64 0) := b4.cell 0
    have c1 : w5.cell? ⟨w.heap.size, 1, none⟩ = some (.int .i64 0) := b4.cell 1
    have f0 := b4.frozen 0
    have f1 := b4.frozen 1
    have d0 : w5.cell? ⟨w.heap.size + 1, 0, none⟩ = some (.int .i64 3) := b5.cell 0
    have d1 : w5.cell? ⟨w.heap.size + 1, 1, none⟩ = some (.int .i64 (n)) := b5.cell 1
    clear HS HN hB b2 b4 b5
    go_wp2
    refine bodyPost_ret (v := .tuple #[.agg #[.int .i64 0, .int .i64 0], .int .i64 21]) ?_ rfl ⟨rfl, keep_out w w5 _ hK5 (Nat.le_refl _) _ _⟩
    simp [results, Tryz.results92, go_sem, c0, c1]

set_option maxRecDepth 100000 in
set_option maxHeartbeats 8000000 in
theorem rread_4_none (S : ByteArray) (s : List UInt8) (n : Int) (w : World) (hs : Hid (S.data.toList = s)) (hl : S.size ≤ 281474976710656) (hn : I64 n) (he : s = []) (hR : Hid (numR (digs 4 s) = (n, false))) :
    Calls Tryz.prog 92 #[.int .i64 4, .string S] w fun e w' => e = .returned (.tuple #[.agg #[.int .i64 0, .int .i64 0], .int .i64 21]) ∧ Keep NoB w w' := by
  have hz := size_of hs.out
  have q1 : (S.toList == []) = true := by rw [ByteArray.toList_eq, hs.out, he]; rfl
  have hz0 : S.size = 0 := by rw [hz, he]; rfl
  obtain ⟨hn0, hn1⟩ := hn
  have HD : Hid (S.data.toList = digs 4 s) := by show _ = _; unfold digs; rw [if_pos (by decide), hs.out, he]; rfl
  have HN := Lib.hid (fun W => number_any S _ W HD hl)
  rw [hR.out] at HN
  have hB := Blk.new w 146 #[.int .i64 0, .int .i64 0]
  have hK := (Keep.refl NoB w).alloc (.cells #[.int .i64 0, .int .i64 0] 146)
  clear he
  clear hz hR
  go_enter Tryz.func92, Tryz.ntmps92
  go_wp2_with (first | (go_at_call 115; refine (rknown_any _ _).mono ?_; rintro e w' ⟨rfl, rfl⟩) | fail)
  refine (HN.out _).mono ?_
  rintro e w2 ⟨rfl, rfl⟩
  go_wp2
  refine bodyPost_ret (v := .tuple #[.agg #[.int .i64 0, .int .i64 0], .int .i64 21]) (by simp [results, Tryz.results92, go_sem]) rfl ⟨rfl, ?_⟩
  exact hK.alloc _

set_option maxRecDepth 100000 in
set_option maxHeartbeats 8000000 in
theorem rread_4_amp (S : ByteArray) (s : List UInt8) (n : Int) (w : World) (hs : Hid (S.data.toList = s)) (hl : S.size ≤ 281474976710656) (hn : I64 n) (he : s = [38]) (hR : Hid (numR (digs 4 s) = (n, false))) :
    Calls Tryz.prog 92 #[.int .i64 4, .string S] w fun e w' => e = .returned (.tuple #[.agg #[.int .i64 0, .int .i64 0], .int .i64 21]) ∧ Keep NoB w w' := by
  have hz := size_of hs.out
  have q1 : (S.toList == []) = false := by rw [ByteArray.toList_eq, hs.out, he]; rfl
  have q2 : (S.toList == [38]) = true := by rw [ByteArray.toList_eq, hs.out, he]; rfl
  have hz0 : 0 < S.size := by rw [hz, he]; decide
  obtain ⟨hn0, hn1⟩ := hn
  obtain ⟨DD, hDD⟩ : ∃ DD, S.extract 1 S.size = DD := ⟨_, rfl⟩
  have HD : Hid (DD.data.toList = digs 4 s) := by show _ = _; rw [← hDD]; unfold digs; rw [if_pos (by decide)]; exact extract_drop hs.out
  have HDl : DD.size ≤ 281474976710656 := by rw [size_of HD.out]; unfold digs; rw [if_pos (by decide), List.length_drop]; omega
  have HN := Lib.hid (fun W => number_any DD _ W HD HDl)
  rw [hR.out] at HN
  have hB := Blk.new w 146 #[.int .i64 0, .int .i64 0]
  have hK := (Keep.refl NoB w).alloc (.cells #[.int .i64 0, .int .i64 0] 146)
  clear he
  clear hz hR
  go_enter Tryz.func92, Tryz.ntmps92
  go_wp2_with (first | (go_at_call 115; refine (rknown_any _ _).mono ?_; rintro e w' ⟨rfl, rfl⟩) | fail)
  refine (HN.out _).mono ?_
  rintro e w2 ⟨rfl, rfl⟩
  go_wp2
  refine bodyPost_ret (v := .tuple #[.agg #[.int .i64 0, .int .i64 0], .int .i64 21]) (by simp [results, Tryz.results92, go_sem]) rfl ⟨rfl, ?_⟩
  exact hK.alloc _

set_option maxRecDepth 100000 in
set_option maxHeartbeats 8000000 in
theorem rread_4_f (S : ByteArray) (s : List UInt8) (n : Int) (w : World) (hs : Hid (S.data.toList = s)) (hl : S.size ≤ 281474976710656) (hn : I64 n) (hne : s ≠ []) (hamp : s ≠ [38]) (hR : Hid (numR (digs 4 s) = (n, false))) :
    Calls Tryz.prog 92 #[.int .i64 4, .string S] w fun e w' => e = .returned (rOut 4 (0) s) ∧ Keep NoB w w' := by
  have hz := size_of hs.out
  have q1 : (S.toList == []) = false := by rw [ByteArray.toList_eq, hs.out, beq_eq_false_iff_ne]; exact hne
  have q2 : (S.toList == [38]) = false := by rw [ByteArray.toList_eq, hs.out, beq_eq_false_iff_ne]; exact hamp
  have hz0 : 0 < S.size := by rw [hz]; exact List.length_pos_iff.2 hne
  obtain ⟨hn0, hn1⟩ := hn
  obtain ⟨DD, hDD⟩ : ∃ DD, S.extract 1 S.size = DD := ⟨_, rfl⟩
  have HD : Hid (DD.data.toList = digs 4 s) := by show _ = _; rw [← hDD]; unfold digs; rw [if_pos (by decide)]; exact extract_drop hs.out
  have HDl : DD.size ≤ 281474976710656 := by rw [size_of HD.out]; unfold digs; rw [if_pos (by decide), List.length_drop]; omega
  have HN := Lib.hid (fun W => number_any DD _ W HD HDl)
  rw [hR.out] at HN
  have hB := Blk.new w 146 #[.int .i64 0, .int .i64 0]
  have hK := (Keep.refl NoB w).alloc (.cells #[.int .i64 0, .int .i64 0] 146)
  clear hne
  clear hamp
  clear hz hR
  have HS := Lib.hid (fun W => rshow_any 4 (0) W ⟨by omega, by omega⟩)
  by_cases hq : showL 4 (0) = s
  · have q4 : (showL 4 (0) == S.toList) = true := by rw [ByteArray.toList_eq, hs.out, beq_iff_eq]; exact hq
    rw [rOut_ok hq]
    clear hq
    go_enter Tryz.func92, Tryz.ntmps92
    go_wp2_with (first | (go_at_call 115; refine (rknown_any _ _).mono ?_; rintro e w' ⟨rfl, rfl⟩) | fail)
    refine (HN.out _).mono ?_
    rintro e w2 ⟨rfl, rfl⟩
    go_wp2_with fail
    refine (HS.out _).mono ?_
    rintro e w5 ⟨rfl, hk5⟩
    have hK5 := keepN (hK.alloc _) hk5
    have b2 := Blk.new (w.alloc (.cells #[.int .i64 0, .int .i64 0] 146)) 146 #[.int .i64 4, .int .i64 (0)]
    rw [show (w.alloc (.cells #[.int .i64 0, .int .i64 0] 146)).heap.size = w.heap.size + 1 by simp] at b2
    have b4 := (hB.keep ((Keep.refl NoB _).alloc _) id).keep hk5 id
    have b5 := b2.keep hk5 id
    have hz4 := b4.lt
    have hz5 := b5.lt
    have c0 : w5.cell? ⟨w.heap.size, 0, none⟩ = some (.int .i64 0) := b4.cell 0
    have c1 : w5.cell? ⟨w.heap.size, 1, none⟩ = some (.int .i64 0) := b4.cell 1
    have f0 := b4.frozen 0
    have f1 := b4.frozen 1
    have d0 : w5.cell? ⟨w.heap.size + 1, 0, none⟩ = some (.int .i64 4) := b5.cell 0
    have d1 : w5.cell? ⟨w.heap.size + 1, 1, none⟩ = some (.int .i64 (0)) := b5.cell 1
    clear HS HN hB b2 b4 b5
    go_wp2
    refine bodyPost_ret (v := .tuple #[.agg #[.int .i64 4, .int .i64 (0)], .int .i64 0]) ?_ rfl ⟨rfl, keep_out w w5 _ hK5 (Nat.le_refl _) _ _⟩
    simp [results, Tryz.results92, go_sem, c0, c1]
  · have q4 : (showL 4 (0) == S.toList) = false := by rw [ByteArray.toList_eq, hs.out, beq_eq_false_iff_ne]; exact hq
    rw [rOut_no hq]
    clear hq
    go_enter Tryz.func92, Tryz.ntmps92
    go_wp2_with (first | (go_at_call 115; refine (rknown_any _ _).mono ?_; rintro e w' ⟨rfl, rfl⟩) | fail)
    refine (HN.out _).mono ?_
    rintro e w2 ⟨rfl, rfl⟩
    go_wp2_with fail
    refine (HS.out _).mono ?_
    rintro e w5 ⟨rfl, hk5⟩
    have hK5 := keepN (hK.alloc _) hk5
    have b2 := Blk.new (w.alloc (.cells #[.int .i64 0, .int .i64 0] 146)) 146 #[.int .i64 4, .int .i64 (0)]
    rw [show (w.alloc (.cells #[.int .i64 0, .int .i64 0] 146)).heap.size = w.heap.size + 1 by simp] at b2
    have b4 := (hB.keep ((Keep.refl NoB _).alloc _) id).keep hk5 id
    have b5 := b2.keep hk5 id
    have hz4 := b4.lt
    have hz5 := b5.lt
    have c0 : w5.cell? ⟨w.heap.size, 0, none⟩ = some (.int .i64 0) := b4.cell 0
    have c1 : w5.cell? ⟨w.heap.size, 1, none⟩ = some (.int .i64 0) := b4.cell 1
    have f0 := b4.frozen 0
    have f1 := b4.frozen 1
    have d0 : w5.cell? ⟨w.heap.size + 1, 0, none⟩ = some (.int .i64 4) := b5.cell 0
    have d1 : w5.cell? ⟨w.heap.size + 1, 1, none⟩ = some (.int .i64 (0)) := b5.cell 1
    clear HS HN hB b2 b4 b5
    go_wp2
    refine bodyPost_ret (v := .tuple #[.agg #[.int .i64 0, .int .i64 0], .int .i64 21]) ?_ rfl ⟨rfl, keep_out w w5 _ hK5 (Nat.le_refl _) _ _⟩
    simp [results, Tryz.results92, go_sem, c0, c1]

set_option maxRecDepth 100000 in
set_option maxHeartbeats 8000000 in
theorem rread_4_t (S : ByteArray) (s : List UInt8) (n : Int) (w : World) (hs : Hid (S.data.toList = s)) (hl : S.size ≤ 281474976710656) (hn : I64 n) (hne : s ≠ []) (hamp : s ≠ [38]) (hR : Hid (numR (digs 4 s) = (n, true))) :
    Calls Tryz.prog 92 #[.int .i64 4, .string S] w fun e w' => e = .returned (rOut 4 (0) s) ∧ Keep NoB w w' := by
  have hz := size_of hs.out
  have q1 : (S.toList == []) = false := by rw [ByteArray.toList_eq, hs.out, beq_eq_false_iff_ne]; exact hne
  have q2 : (S.toList == [38]) = false := by rw [ByteArray.toList_eq, hs.out, beq_eq_false_iff_ne]; exact hamp
  have hz0 : 0 < S.size := by rw [hz]; exact List.length_pos_iff.2 hne
  obtain ⟨hn0, hn1⟩ := hn
  obtain ⟨DD, hDD⟩ : ∃ DD, S.extract 1 S.size = DD := ⟨_, rfl⟩
  have HD : Hid (DD.data.toList = digs 4 s) := by show _ = _; rw [← hDD]; unfold digs; rw [if_pos (by decide)]; exact extract_drop hs.out
  have HDl : DD.size ≤ 281474976710656 := by rw [size_of HD.out]; unfold digs; rw [if_pos (by decide), List.length_drop]; omega
  have HN := Lib.hid (fun W => number_any DD _ W HD HDl)
  rw [hR.out] at HN
  have hB := Blk.new w 146 #[.int .i64 0, .int .i64 0]
  have hK := (Keep.refl NoB w).alloc (.cells #[.int .i64 0, .int .i64 0] 146)
  clear hne
  clear hamp
  clear hz hR
  have HS := Lib.hid (fun W => rshow_any 4 (0) W ⟨by omega, by omega⟩)
  by_cases hq : showL 4 (0) = s
  · have q4 : (showL 4 (0) == S.toList) = true := by rw [ByteArray.toList_eq, hs.out, beq_iff_eq]; exact hq
    rw [rOut_ok hq]
    clear hq
    go_enter Tryz.func92, Tryz.ntmps92
    go_wp2_with (first | (go_at_call 115; refine (rknown_any _ _).mono ?_; rintro e w' ⟨rfl, rfl⟩) | fail)
    refine (HN.out _).mono ?_
    rintro e w2 ⟨rfl, rfl⟩
    go_wp2_with fail
    refine (HS.out _).mono ?_
    rintro e w5 ⟨rfl, hk5⟩
    have hK5 := keepN (hK.alloc _) hk5
    have b2 := Blk.new (w.alloc (.cells #[.int .i64 0, .int .i64 0] 146)) 146 #[.int .i64 4, .int .i64 (0)]
    rw [show (w.alloc (.cells #[.int .i64 0, .int .i64 0] 146)).heap.size = w.heap.size + 1 by simp] at b2
    have b4 := (hB.keep ((Keep.refl NoB _).alloc _) id).keep hk5 id
    have b5 := b2.keep hk5 id
    have hz4 := b4.lt
    have hz5 := b5.lt
    have c0 : w5.cell? ⟨w.heap.size, 0, none⟩ = some (.int .i64 0) := b4.cell 0
    have c1 : w5.cell? ⟨w.heap.size, 1, none⟩ = some (.int .i64 0) := b4.cell 1
    have f0 := b4.frozen 0
    have f1 := b4.frozen 1
    have d0 : w5.cell? ⟨w.heap.size + 1, 0, none⟩ = some (.int .i64 4) := b5.cell 0
    have d1 : w5.cell? ⟨w.heap.size + 1, 1, none⟩ = some (.int .i64 (0)) := b5.cell 1
    clear HS HN hB b2 b4 b5
    go_wp2
    refine bodyPost_ret (v := .tuple #[.agg #[.int .i64 4, .int .i64 (0)], .int .i64 0]) ?_ rfl ⟨rfl, keep_out w w5 _ hK5 (Nat.le_refl _) _ _⟩
    simp [results, Tryz.results92, go_sem, c0, c1]
  · have q4 : (showL 4 (0) == S.toList) = false := by rw [ByteArray.toList_eq, hs.out, beq_eq_false_iff_ne]; exact hq
    rw [rOut_no hq]
    clear hq
    go_enter Tryz.func92, Tryz.ntmps92
    go_wp2_with (first | (go_at_call 115; refine (rknown_any _ _).mono ?_; rintro e w' ⟨rfl, rfl⟩) | fail)
    refine (HN.out _).mono ?_
    rintro e w2 ⟨rfl, rfl⟩
    go_wp2_with fail
    refine (HS.out _).mono ?_
    rintro e w5 ⟨rfl, hk5⟩
    have hK5 := keepN (hK.alloc _) hk5
    have b2 := Blk.new (w.alloc (.cells #[.int .i64 0, .int .i64 0] 146)) 146 #[.int .i64 4, .int .i64 (0)]
    rw [show (w.alloc (.cells #[.int .i64 0, .int .i64 0] 146)).heap.size = w.heap.size + 1 by simp] at b2
    have b4 := (hB.keep ((Keep.refl NoB _).alloc _) id).keep hk5 id
    have b5 := b2.keep hk5 id
    have hz4 := b4.lt
    have hz5 := b5.lt
    have c0 : w5.cell? ⟨w.heap.size, 0, none⟩ = some (.int .i64 0) := b4.cell 0
    have c1 : w5.cell? ⟨w.heap.size, 1, none⟩ = some (.int .i64 0) := b4.cell 1
    have f0 := b4.frozen 0
    have f1 := b4.frozen 1
    have d0 : w5.cell? ⟨w.heap.size + 1, 0, none⟩ = some (.int .i64 4) := b5.cell 0
    have d1 : w5.cell? ⟨w.heap.size + 1, 1, none⟩ = some (.int .i64 (0)) := b5.cell 1
    clear HS HN hB b2 b4 b5
    go_wp2
    refine bodyPost_ret (v := .tuple #[.agg #[.int .i64 0, .int .i64 0], .int .i64 21]) ?_ rfl ⟨rfl, keep_out w w5 _ hK5 (Nat.le_refl _) _ _⟩
    simp [results, Tryz.results92, go_sem, c0, c1]

theorem r_of_out {k g : Int} {s : List UInt8} (hk : knownB k = true) (h0 : s ≠ []) (h1 : s ≠ [38]) (hg : gR k s = g) : rOut k g s = .tuple #[.agg #[.int .i64 (rT k s), .int .i64 (rN k s)], .int .i64 (rE k s)] := by
  by_cases h : showL k g = s
  · obtain ⟨e1, e2, e3⟩ := r_some (s := s) (n := g) hk ((rdR_eq hk s).symm.trans (by unfold rdR; rw [hg, if_neg (by simp [h0, h1, h])]))
    rw [rOut_ok h, e1, e2, e3]
  · obtain ⟨e1, e2, e3⟩ := r_none (s := s) hk ((rdR_eq hk s).symm.trans (by unfold rdR; rw [hg, if_pos (Or.inr (Or.inr h))]))
    rw [rOut_no h, e1, e2, e3]

set_option maxRecDepth 100000 in
set_option maxHeartbeats 4000000 in
theorem rread_any (t : Int) (S : ByteArray) (s : List UInt8) (w : World) (hs : Hid (S.data.toList = s)) (hl : S.size ≤ 281474976710656) :
    Calls Tryz.prog 92 #[.int .i64 t, .string S] w fun e w' => e = .returned (.tuple #[.agg #[.int .i64 (rT t s), .int .i64 (rN t s)], .int .i64 (rE t s)]) ∧ Keep NoB w w' := by
  cases hkn : knownB t
  · obtain ⟨e1, e2, e3⟩ := r_bad s hkn
    rw [e1, e2, e3]
    clear e1 e2 e3
    go_enter Tryz.func92, Tryz.ntmps92
    go_wp2_with (go_at_call 115; refine (rknown_any _ _).mono ?_; rintro e w' ⟨rfl, rfl⟩)
    exact bodyPost_ret (v := .tuple #[.agg #[.int .i64 0, .int .i64 0], .int .i64 20]) (by simp [results, Tryz.results92, go_sem]) rfl ⟨rfl, (Keep.refl _ _).alloc _⟩
  · rcases known_cases hkn with rfl | rfl | rfl | rfl
    · by_cases h0 : s = []
      · obtain ⟨e1, e2, e3⟩ := r_none (s := s) hkn ((rdR_eq hkn s).symm.trans (by unfold rdR; rw [if_pos (Or.inl h0)]))
        rw [e1, e2, e3]
        exact rread_1_none S s 0 w hs hl ⟨by decide, by decide⟩ h0 (by show _ = _; rw [h0]; rfl)
      · by_cases h1 : s = [38]
        · obtain ⟨e1, e2, e3⟩ := r_none (s := s) hkn ((rdR_eq hkn s).symm.trans (by unfold rdR; rw [if_pos (Or.inr (Or.inl h1))]))
          rw [e1, e2, e3]
          exact rread_1_amp S s 0 w hs hl ⟨by decide, by decide⟩ h1 (by show _ = _; rw [h1]; rfl)
        · have hb := numR_bounds (digs 1 s)
          have hnil : (numR (digs 1 s)).2 = true → s ≠ [110, 105, 108] := by rintro h rfl; exact absurd h (by decide)
          cases hR : numR (digs 1 s) with
          | mk n b =>
            rw [hR] at hb hnil
            cases b
            · rw [← r_of_out hkn h0 h1 (show gR 1 s = 0 by unfold gR; rw [hR, if_neg (by simp)])]
              exact rread_1_f S s n w hs hl hb h0 h1 hR
            · rw [← r_of_out hkn h0 h1 (show gR 1 s = n by unfold gR; rw [hR, if_pos ⟨rfl, by decide, hnil rfl⟩, if_neg (fun h => absurd h.1 (by decide))])]
              exact rread_1_t S s n w hs hl hb (hnil rfl) h0 h1 hR
    · by_cases h0 : s = []
      · obtain ⟨e1, e2, e3⟩ := r_none (s := s) hkn ((rdR_eq hkn s).symm.trans (by unfold rdR; rw [if_pos (Or.inl h0)]))
        rw [e1, e2, e3]
        exact rread_2_none S s 0 w hs hl ⟨by decide, by decide⟩ h0 (by show _ = _; rw [h0]; rfl)
      · by_cases h1 : s = [38]
        · obtain ⟨e1, e2, e3⟩ := r_none (s := s) hkn ((rdR_eq hkn s).symm.trans (by unfold rdR; rw [if_pos (Or.inr (Or.inl h1))]))
          rw [e1, e2, e3]
          exact rread_2_amp S s 0 w hs hl ⟨by decide, by decide⟩ h1 (by show _ = _; rw [h1]; rfl)
        · have hb := numR_bounds (digs 2 s)
          have hnil : (numR (digs 2 s)).2 = true → s ≠ [110, 105, 108] := by rintro h rfl; exact absurd h (by decide)
          cases hR : numR (digs 2 s) with
          | mk n b =>
            rw [hR] at hb hnil
            cases b
            · rw [← r_of_out hkn h0 h1 (show gR 2 s = 0 by unfold gR; rw [hR, if_neg (by simp)])]
              exact rread_2_f S s n w hs hl hb h0 h1 hR
            · rw [← r_of_out hkn h0 h1 (show gR 2 s = n by unfold gR; rw [hR, if_pos ⟨rfl, by decide, hnil rfl⟩, if_neg (fun h => absurd h.1 (by decide))])]
              exact rread_2_t S s n w hs hl hb (hnil rfl) h0 h1 hR
    · by_cases h0 : s = []
      · obtain ⟨e1, e2, e3⟩ := r_none (s := s) hkn ((rdR_eq hkn s).symm.trans (by unfold rdR; rw [if_pos (Or.inl h0)]))
        rw [e1, e2, e3]
        exact rread_3_none S s 0 w hs hl ⟨by decide, by decide⟩ h0 (by show _ = _; rw [h0]; rfl)
      · by_cases h1 : s = [38]
        · obtain ⟨e1, e2, e3⟩ := r_none (s := s) hkn ((rdR_eq hkn s).symm.trans (by unfold rdR; rw [if_pos (Or.inr (Or.inl h1))]))
          rw [e1, e2, e3]
          exact rread_3_amp S s 0 w hs hl ⟨by decide, by decide⟩ h1 (by show _ = _; rw [h1]; rfl)
        · have hb := numR_bounds (digs 3 s)
          have hnil : (numR (digs 3 s)).2 = true → s ≠ [110, 105, 108] := by rintro h rfl; exact absurd h (by decide)
          cases hR : numR (digs 3 s) with
          | mk n b =>
            rw [hR] at hb hnil
            cases b
            · rw [← r_of_out hkn h0 h1 (show gR 3 s = 0 by unfold gR; rw [hR, if_neg (by simp)])]
              exact rread_3_f S s n w hs hl hb h0 h1 hR
            · by_cases hlt : n < 9223372036854775807
              · rw [← r_of_out hkn h0 h1 (show gR 3 s = n + 1 by unfold gR; rw [hR, if_pos ⟨rfl, by decide, hnil rfl⟩, if_pos ⟨rfl, hlt⟩])]
                exact rread_3_t S s n w hs hl hb (hnil rfl) hlt h0 h1 hR
              · rw [← r_of_out hkn h0 h1 (show gR 3 s = n by unfold gR; rw [hR, if_pos ⟨rfl, by decide, hnil rfl⟩, if_neg (fun h => hlt h.2)])]
                exact rread_3_m S s n w hs hl hb (hnil rfl) hlt h0 h1 hR
    · by_cases h0 : s = []
      · obtain ⟨e1, e2, e3⟩ := r_none (s := s) hkn ((rdR_eq hkn s).symm.trans (by unfold rdR; rw [if_pos (Or.inl h0)]))
        rw [e1, e2, e3]
        exact rread_4_none S s 0 w hs hl ⟨by decide, by decide⟩ h0 (by show _ = _; rw [h0]; rfl)
      · by_cases h1 : s = [38]
        · obtain ⟨e1, e2, e3⟩ := r_none (s := s) hkn ((rdR_eq hkn s).symm.trans (by unfold rdR; rw [if_pos (Or.inr (Or.inl h1))]))
          rw [e1, e2, e3]
          exact rread_4_amp S s 0 w hs hl ⟨by decide, by decide⟩ h1 (by show _ = _; rw [h1]; rfl)
        · have hb := numR_bounds (digs 4 s)
          have hnil : (numR (digs 4 s)).2 = true → s ≠ [110, 105, 108] := by rintro h rfl; exact absurd h (by decide)
          cases hR : numR (digs 4 s) with
          | mk n b =>
            rw [hR] at hb hnil
            cases b
            · rw [← r_of_out hkn h0 h1 (show gR 4 s = 0 by unfold gR; rw [hR, if_neg (by simp)])]
              exact rread_4_f S s n w hs hl hb h0 h1 hR
            · rw [← r_of_out hkn h0 h1 (show gR 4 s = 0 by unfold gR; rw [hR, if_neg (fun h => absurd h.2.1 (by decide))])]
              exact rread_4_t S s n w hs hl hb h0 h1 hR

end Go.Proofs.YtpkcjokkadfhcaaGreatDoor.W
