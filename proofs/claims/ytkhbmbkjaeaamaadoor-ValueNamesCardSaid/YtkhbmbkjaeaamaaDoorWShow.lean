/-
  What Show answers. Conditions: the variables that it reads hold what their initialisers lay; the value's number fits an int64.
-/
import Derived.Test.YtkhbmbkjaeaamaaDoorWRead
import Derived.Test.YtkhbmbkjaeaamaaDoorWRTypes
import Derived.Lib.AppendIntMem
import Derived.IntWalk
namespace Go.Proofs.YtkhbmbkjaeaamaaDoor
open Go.RowKit

theorem str_app (a b : List UInt8) : str a ++ str b = str (a ++ b) := by
  apply ByteArray.ext
  simp [ByteArray.data_append]

set_option maxHeartbeats 400000 in
theorem offset_any (t : Int) (w : World) :
    Calls Tryd.prog 38 #[.int .i64 t] w fun e w' => e = .returned (.int .i64 (off t)) ∧ w = w' := by
  by_cases h : t = 3
  · subst h
    go_enter Tryd.func38, Tryd.ntmps38
    go_wp2
    go_ret
    exact ⟨rfl, rfl⟩
  · have hq : (t == 3) = false := by rw [beq_eq_false_iff_ne]; exact h
    have HO : Hid (off t = 0) := by show _ = _; unfold off; rw [if_neg h]
    clear h
    go_enter Tryd.func38, Tryd.ntmps38
    go_wp2
    go_ret
    exact ⟨ret_int (by rw [HO.out]), rfl⟩

theorem format_any (n : Int) (w : World) (h0 : -9223372036854775808 ≤ n) (h1 : n ≤ 9223372036854775807) (h : Laid w) :
    Calls Tryd.prog 37 #[.int .i64 n, .int .i64 10] w fun e w' => ∃ d, e = .returned (.string d) ∧ d.size ≤ 21 ∧ Hid (d = str (Lib.itoa n)) ∧ Keep NoB w w' := by
  refine (Tryd.strconv_FormatInt_10 n h0 h1 w h.pow).mono ?_
  rintro e w' ⟨rfl, k, os, rfl⟩
  exact ⟨_, rfl, by have := Lib.itoa_length_le n h0 h1; rw [size_of (s := Lib.itoa n) (by simp)]; exact this, rfl, Keep.of_below (Go.Lib.below_grow _ w (Nat.le_refl _) k os)⟩

theorem offset_at (t o : Int) (w : World) (ho : Hid (off t = o)) :
    Calls Tryd.prog 38 #[.int .i64 t] w fun e w' => e = .returned (.int .i64 o) ∧ w = w' := by
  have := offset_any t w
  rw [ho.out] at this
  exact this
theorem sig_at {w : World} (h : Laid w) {k : Nat} (h1 : 1 ≤ k) (h4 : k ≤ 4) : w.cell? ⟨1, k, none⟩ = some (.string (str (sgn (k : Int)))) := by
  rw [h.cell k]
  obtain rfl | rfl | rfl | rfl : k = 1 ∨ k = 2 ∨ k = 3 ∨ k = 4 := by omega
  all_goals rfl
theorem sgn_len (t : Int) : (sgn t).length ≤ 1 := by unfold sgn; split <;> (try split) <;> (try split) <;> simp

set_option maxRecDepth 100000 in
set_option maxHeartbeats 4000000 in
theorem show_num_any (k : Nat) (n : Int) (w : World) (hk1 : 1 ≤ k) (hk3 : k ≤ 3) (hn : I64 n) (hok : okB k n = true) (hz : nilB k n = false) (h : Laid w) :
    Calls Tryd.prog 21 #[.agg #[.int .i64 (k : Int), .int .i64 n]] w fun e w' => e = .returned (.string (str (showL k n))) ∧ Keep NoB w w' := by
  obtain ⟨hn0, hn1⟩ := hn
  have HX := Lib.hid (show_num hok hz (by omega))
  have HC := Lib.hid (check_ok k n · hok)
  have HN := Lib.hid (fun W => nil_any k n W)
  rw [hz] at HN
  obtain ⟨o, ho⟩ : ∃ o, Hid (off (k : Int) = o) := ⟨_, rfl⟩
  have ho0 : 0 ≤ o ∧ o ≤ 1 ∧ -9223372036854775808 ≤ n - o := by
    rw [← ho.out]
    rw [ok_iff] at hok
    rw [nil_not] at hz
    unfold off
    split <;> omega
  obtain ⟨ho0, ho1, ho2⟩ := ho0
  obtain ⟨g, hg⟩ : ∃ g, Hid (str (sgn (k : Int)) = g) := ⟨_, rfl⟩
  have hgs : g.size ≤ 1 := by rw [← hg.out, size_of (s := sgn (k : Int)) (by simp)]; exact sgn_len _
  clear hok hz
  have hB := Blk.new w 35 #[.int .i64 (k : Int), .int .i64 n]
  have hK := (Keep.refl NoB w).alloc (.cells #[.int .i64 (k : Int), .int .i64 n] 35)
  go_enter Tryd.func21, Tryd.ntmps21
  go_wp2_with fail
  refine (HC.out _).mono ?_
  rintro e w2 ⟨rfl, hk2⟩
  have b2 := hB.keep hk2 id
  have c0 : w2.cell? ⟨w.heap.size, 0, none⟩ = some (.int .i64 (k : Int)) := b2.cell 0
  have c1 : w2.cell? ⟨w.heap.size, 1, none⟩ = some (.int .i64 n) := b2.cell 1
  go_wp2_with fail
  refine (HN.out _).mono ?_
  rintro e w3 ⟨rfl, hk3⟩
  have b3 := b2.keep hk3 id
  have hK3 := keepN (keepN hK hk2) hk3
  have h3 := h.keep hK3
  clear c0 c1
  have c0 : w3.cell? ⟨w.heap.size, 0, none⟩ = some (.int .i64 (k : Int)) := b3.cell 0
  have c1 : w3.cell? ⟨w.heap.size, 1, none⟩ = some (.int .i64 n) := b3.cell 1
  have HQ : Hid (∀ w', Keep NoB w3 w' → w'.cell? ⟨w.heap.size, 0, none⟩ = some (.int .i64 (k : Int)) ∧ w'.cell? ⟨w.heap.size, 1, none⟩ = some (.int .i64 n) ∧ w'.cell? ⟨1, k, none⟩ = some (.string g)) :=
    fun w' hk' => ⟨(b3.keep hk' id).cell 0, (b3.keep hk' id).cell 1, by rw [← hg.out]; exact sig_at (h3.keep hk') (by omega) (by omega)⟩
  have hd0 := (Keep.refl NoB w3).drew
  have h3d := h3.keep hd0
  have hq : ((k : Int) == 4) = false := by rw [beq_eq_false_iff_ne]; omega
  have hk5 : (k : Int) < 5 := by omega
  have HS := Lib.hid hgs
  go_wp2
  have hw : IntKind.i64.wrap (n - o) = n - o := IntWalk.i64_in _ (by omega)
  clear hk1 hk3
  go_region_held (fun w' => w'.cell? ⟨w.heap.size, 0, none⟩ = some (.int .i64 (k : Int)) ∧ w'.cell? ⟨w.heap.size, 1, none⟩ = some (.int .i64 n) ∧ w'.cell? ⟨1, k, none⟩ = some (.string g))
    (first | exact HQ.out _ hd0 | exact HQ.out _ (keepN hd0 hk5'))
    (first | (go_at_call 38; refine (offset_at (k : Int) o _ ho).mono ?_; rintro e w4 ⟨rfl, rfl⟩) | (go_at_call 37; refine (format_any (n - o) w3.drew ho2 (by omega) h3d).mono ?_; rintro e w5 ⟨d, rfl, hds, hd, hk5'⟩))
  all_goals go_wp2
  all_goals go_ret
  all_goals exact ⟨by rw [HX.out, ho.out, ← str_app, hg.out, ← hd.out]; rfl, keepN hK3 (keepN hd0 hk5')⟩

end Go.Proofs.YtkhbmbkjaeaamaaDoor
