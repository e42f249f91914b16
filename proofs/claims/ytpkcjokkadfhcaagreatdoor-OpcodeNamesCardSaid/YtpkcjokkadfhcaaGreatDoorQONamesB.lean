/-
  What OpcodeNames calls besides: Decode of no Reel, and of bytes that are written out; the instructions that may not be, and may. Conditions: none but those of the texts.
-/
import Derived.Test.YtpkcjokkadfhcaaGreatDoorQONamesA
import Derived.Test.YtpkcjokkadfhcaaGreatDoorQ8
import Derived.Test.YtpkcjokkadfhcaaGreatDoorQ10
namespace Go.Proofs.YtpkcjokkadfhcaaGreatDoor.O
open Go.RowKit

set_option maxHeartbeats 1000000 in
theorem rnumber_nil (m : Int) (w : World) :
    Calls Tryz.prog 45 #[.pointer none, .int .u64 m] w fun e w' => e = .returned (.tuple #[.int .u64 0, .int .i64 1]) ∧ Keep NoB w w' := by
  go_enter Tryz.func45, Tryz.ntmps45
  go_wp2
  go_ret2
  exact ⟨rfl, Keep.refl _ _⟩
set_option maxHeartbeats 1000000 in
theorem decode_nil (w : World) :
    Calls Tryz.prog 11 #[.pointer none] w fun e w' => e = .returned (.tuple #[instV 0 0 0, .int .i64 1]) ∧ Keep NoB w w' := by
  have hK := (Keep.refl NoB w).alloc (.cells #[.int .i64 0, .int .i64 0, .int .i64 0] 23)
  have hb0 := Blk.new w 23 #[.int .i64 0, .int .i64 0, .int .i64 0]
  go_enter Tryz.func11, Tryz.ntmps11
  go_wp2_with fail
  refine (rnumber_nil _ _).mono ?_
  rintro e w1 ⟨rfl, k2⟩
  replace hb0 := hb0.keep k2 id
  replace hK := keepN hK k2
  clear k2
  have hz := hb0.lt
  have f0 := fun i => hb0.frozen i
  obtain ⟨x0, x1, x2⟩ := blk_inst hb0
  go_wp2
  exact bodyPost_ret (v := .tuple #[instV 0 0 0, .int .i64 1]) (by simp [results, Tryz.results11, go_sem, x0, x1, x2]) rfl ⟨rfl, out3N hK (Nat.le_refl _) _ _ _⟩

/-- Bytes that have just been made read so. -/
theorem bvs_new (l : List UInt8) (w : World) (T : TypeId) : V.Rd (w.alloc (.cells (V.bvs l).toArray T)) (some ⟨w.heap.size, 0, none⟩) l := fun _ =>
  ⟨_, rfl, fun j u hu => by
    have := (Blk.new w T (V.bvs l).toArray).cell j
    simp only [List.getElem?_toArray] at this
    have e : (⟨w.heap.size, 0, none⟩ : Addr).add j = ⟨w.heap.size, j, none⟩ := by
      unfold Addr.add
      split
      · rename_i h; rw [h]
      · simp
    rw [e, ← hu]
    exact this⟩
/-- Decode of bytes that are written out. -/
theorem decode_at (w : World) (br : Nat) (l : List UInt8) (op a b : Int) (er : Nat) (hd : (decI l 0).op = op ∧ (decI l 0).a = a ∧ (decI l 0).b = b ∧ (decI l 0).er = er) (hlen : l.length ≤ 140737488355328) (w0 : World) (h : V.ReelAt w br (Fresh w0) l 0) (hk : Keep NoB w0 w) :
    Calls Tryz.prog 11 #[.pointer (some ⟨br, 0, none⟩)] w fun e w' => e = .returned (.tuple #[instV op a b, .int .i64 er]) ∧ Keep NoB w0 w' := by
  obtain ⟨rfl, rfl, rfl, rfl⟩ := hd
  refine (decode_any w br _ l 0 (fun k hk => hk.2) (reel_new h) hlen).mono ?_
  rintro e w' ⟨rfl, _, hk2⟩
  exact ⟨rfl, hk.trans hk2 (fun k e hl => by subst e; have := h.1; unfold Fresh at this; omega)⟩
theorem dl_1 : (decI [0] 0).op = 0 ∧ (decI [0] 0).a = 0 ∧ (decI [0] 0).b = 0 ∧ (decI [0] 0).er = 0 := by decide +kernel
theorem dl_2 : (decI [30] 0).op = 0 ∧ (decI [30] 0).a = 0 ∧ (decI [30] 0).b = 0 ∧ (decI [30] 0).er = 12 := by decide +kernel
theorem dl_3 : (decI [9, 1] 0).op = 0 ∧ (decI [9, 1] 0).a = 0 ∧ (decI [9, 1] 0).b = 0 ∧ (decI [9, 1] 0).er = 10 := by decide +kernel
theorem dl_4 : (decI [2, 0] 0).op = 0 ∧ (decI [2, 0] 0).a = 0 ∧ (decI [2, 0] 0).b = 0 ∧ (decI [2, 0] 0).er = 40 := by decide +kernel
theorem dl_5 : (decI [9, 1, 4] 0).op = 0 ∧ (decI [9, 1, 4] 0).a = 0 ∧ (decI [9, 1, 4] 0).b = 0 ∧ (decI [9, 1, 4] 0).er = 12 := by decide +kernel
theorem dl_6 : (decI [18, 130, 0] 0).op = 0 ∧ (decI [18, 130, 0] 0).a = 0 ∧ (decI [18, 130, 0] 0).b = 0 ∧ (decI [18, 130, 0] 0).er = 12 := by decide +kernel

/-- Instructions that may not be; that may be. -/
def badL : List (Int × Int × Int) := [(-1, 0, 0), (30, 0, 0), (0, 1, 0), (0, 0, 1), (1, 0, 1), (2, 0, 0), (2, 5, 0), (3, 64, 0), (3, -1, 0), (8, 64, 0), (9, 16, 1), (9, 0, 0), (9, 0, 4), (11, 64, 0), (15, 14, 0), (16, 9, 0), (17, 0, 0), (18, 512, 0), (20, -1, 0), (24, 1, 0)]
def goodL : List (Int × Int × Int) := [(1, -9223372036854775808, 0), (1, 9223372036854775807, 0), (2, 4, 0), (3, 63, 0), (8, 63, 0), (10, 15, 3), (11, 63, 0), (15, 13, 0), (16, 8, 0), (18, 511, 0)]
theorem bad_all : badL.all (fun x => !okI x.1 x.2.1 x.2.2 && decide (-9223372036854775808 ≤ x.2.1 ∧ x.2.1 ≤ 9223372036854775807 ∧ -9223372036854775808 ≤ x.2.2 ∧ x.2.2 ≤ 9223372036854775807)) = true := by decide +kernel
theorem good_all : goodL.all (fun x => okI x.1 x.2.1 x.2.2) = true := by decide +kernel
def tvs (l : List (Int × Int × Int)) : List Value := l.flatMap fun x => [.int .i64 x.1, .int .i64 x.2.1, .int .i64 x.2.2]
theorem tvs_at : ∀ (l : List (Int × Int × Int)) (k : Nat) (hk : k < l.length), (tvs l)[k * 3]? = some (.int .i64 l[k].1) ∧ (tvs l)[k * 3 + 1]? = some (.int .i64 l[k].2.1) ∧ (tvs l)[k * 3 + 2]? = some (.int .i64 l[k].2.2)
  | x :: l, 0, _ => ⟨rfl, rfl, rfl⟩
  | x :: l, k + 1, hk => by
    have ih := tvs_at l k (by simpa using hk)
    have e : tvs (x :: l) = [.int .i64 x.1, .int .i64 x.2.1, .int .i64 x.2.2] ++ tvs l := rfl
    have e1 : (k + 1) * 3 = 3 + k * 3 := by omega
    rw [e, e1]
    refine ⟨?_, ?_, ?_⟩
    · rw [List.getElem?_append_right (by simp)]; simp; exact ih.1
    · rw [List.getElem?_append_right (by simp; omega)]; simp only [List.length_cons, List.length_nil]; rw [show 3 + k * 3 + 1 - (0 + 1 + 1 + 1) = k * 3 + 1 by omega]; exact ih.2.1
    · rw [List.getElem?_append_right (by simp; omega)]; simp only [List.length_cons, List.length_nil]; rw [show 3 + k * 3 + 2 - (0 + 1 + 1 + 1) = k * 3 + 2 by omega]; exact ih.2.2

/-- Texts that are none. -/
def noneL : List (List UInt8) := [[], [105, 110, 116], [105, 110, 116, 32, 53, 32, 53], [105, 110, 116, 32, 48, 53], [105, 110, 116, 32, 32, 53], [32, 105, 110, 116, 32, 53], [105, 110, 116, 32, 43, 53], [103, 101, 116, 32, 50], [103, 101, 116, 32, 50, 32, 80], [98, 105, 110, 32, 102, 111, 111], [98, 105, 110, 32, 51], [122, 101, 114, 111, 32, 49], [106, 109, 112, 32, 53, 49, 50], [110, 111, 112, 32, 48], [78, 111, 112], [108, 111, 97, 100, 32, 45, 49]]
/-- What is guessed of it has another text, or it has no name. -/
def noneB (s : List UInt8) : Bool := decide (findI (str (Lib.cut s [32]).1) < 0) || decide (showI (findI (str (Lib.cut s [32]).1)) (gA (findI (str (Lib.cut s [32]).1)) (Lib.cut s [32]).2.1) (gB (findI (str (Lib.cut s [32]).1)) (Lib.cut s [32]).2.1) ≠ s)
theorem none_all : noneL.all noneB = true := by decide +kernel
theorem readV_none {s : List UInt8} (h : noneB s = true) : ReadV s (.tuple #[instV 0 0 0, .int .i64 40]) := by
  unfold noneB at h
  rw [Bool.or_eq_true] at h
  rcases h with h | h
  · exact read_nameless (of_decide_eq_true h)
  · exact read_miss rfl (of_decide_eq_true h)
theorem read_none (s : List UInt8) (w : World) (h : noneB s = true) (hl : s.length ≤ 1000) (hL : LaidO w) (hC : CutAt w) :
    Calls Tryz.prog 24 #[.string (str s)] w fun e w' => e = .returned (.tuple #[instV 0 0 0, .int .i64 40]) ∧ Keep NoB w w' := by
  refine (read_text (str s) s w (str_list s) (by rw [str_size]; exact hl) hL hC).mono ?_
  rintro e w' ⟨v, rfl, hv, hk⟩
  rw [readV_one hv (readV_none h)]
  exact ⟨rfl, hk⟩

/-- All names, from -1 to 30. -/
def nmL : List (List UInt8) := (List.range 32).map fun k : Nat => (rowAt ((k : Int) - 1)).name
theorem nmL_len : nmL.length = 32 := by simp [nmL]
theorem nmL_get {k : Nat} (h : k < 32) : nmL.take (k + 1) = nmL.take k ++ [(rowAt ((k : Int) - 1)).name] := by
  have hk : k < nmL.length := by rw [nmL_len]; exact h
  rw [List.take_succ_eq_append_getElem hk]
  simp [nmL]
theorem nmL_join : Lib.join nmL [32] = (([32, 110, 111, 112, 32, 105, 110, 116, 32, 122, 101, 114, 111, 32, 108, 111, 97, 100, 32, 115, 116, 111, 114, 101, 32, 97, 100, 100, 114, 32, 108, 100, 112, 32, 115, 116].append [112, 32, 110, 101, 119, 32, 103, 101, 116, 32, 115, 101, 116, 32, 102, 117, 110, 99, 32, 100, 117, 112, 32, 100, 114, 111, 112, 32, 115, 119, 97, 112, 32, 98, 105, 110]).append ([32, 117, 110, 32, 101, 113, 32, 106, 109, 112, 32, 106, 122, 32, 99, 97, 108, 108, 32, 99, 97, 108, 108, 105, 32, 100, 101, 102, 101, 114, 32, 100, 101, 102, 101, 114].append [105, 32, 114, 101, 116, 32, 112, 97, 110, 105, 99, 32, 114, 101, 99, 111, 118, 101, 114, 32, 103, 111, 101, 120, 105, 116, 32, 112, 114, 105, 110, 116, 32, 105, 110, 32])) := by decide +kernel
theorem effL_join : Lib.join effL [32] = ([58, 32, 58, 73, 32, 58, 73, 32, 63, 32, 63, 32, 58, 80, 32, 80, 58, 73, 32, 80, 73, 58, 32, 58, 82, 32, 82, 58, 70, 32, 82, 70, 58, 32, 58, 70, 32, 63, 32, 63, 32, 63, 32].append [73, 73, 58, 73, 32, 73, 58, 73, 32, 73, 73, 58, 73, 32, 58, 32, 73, 58, 32, 63, 32, 63, 32, 63, 32, 63, 32, 58, 32, 73, 58, 32, 58, 73, 73, 32, 58, 32, 73, 58, 32, 58, 73, 73]) := by decide +kernel

end Go.Proofs.YtpkcjokkadfhcaaGreatDoor.O
