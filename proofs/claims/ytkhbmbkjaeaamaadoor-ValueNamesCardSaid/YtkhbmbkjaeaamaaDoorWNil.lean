/-
  What Nil answers, the code's and the document's; great. No conditions.
-/
import Derived.Test.YtkhbmbkjaeaamaaDoorWCheck
namespace Go.Proofs.YtkhbmbkjaeaamaaDoor
open Go.RowKit

set_option maxHeartbeats 1000000 in
theorem nil_any (t n : Int) (w : World) :
    Calls Tryd.prog 27 #[.agg #[.int .i64 t, .int .i64 n]] w fun e w' => e = .returned (.bool (nilB t n)) ∧ Keep NoB w w' := by
  cases hk : knownB t
  · have hf : nilB t n = false := by rw [nil_not]; have := (known_not t).1 hk; omega
    have HF := Lib.hid hf
    clear hf
    go_enter Tryd.func27, Tryd.ntmps27
    go_wp2_with fail
    refine (zero_bad t _ hk).mono ?_
    rintro e w1 ⟨rfl, hk1⟩
    have hb := (Blk.new w 35 #[.int .i64 t, .int .i64 n]).keep hk1 id
    have hz := hb.lt
    have hc0 : w1.cell? ⟨w.heap.size, 0, none⟩ = some (.int .i64 t) := hb.cell 0
    have hc1 : w1.cell? ⟨w.heap.size, 1, none⟩ = some (.int .i64 n) := hb.cell 1
    clear hb
    go_wp2
    go_ret
    exact ⟨ret_bool (by rw [HF.out]), ((Keep.refl _ _).alloc _).trans (hk1.alloc _) (fun _ hf _ => hf.elim)⟩
  · go_enter Tryd.func27, Tryd.ntmps27
    go_wp2_with fail
    refine (zero_ok t _ hk).mono ?_
    rintro e w1 ⟨rfl, hk1⟩
    have hb := (Blk.new w 35 #[.int .i64 t, .int .i64 n]).keep hk1 id
    have hz := hb.lt
    have hc0 : w1.cell? ⟨w.heap.size, 0, none⟩ = some (.int .i64 t) := hb.cell 0
    have hc1 : w1.cell? ⟨w.heap.size, 1, none⟩ = some (.int .i64 n) := hb.cell 1
    clear hb
    go_wp2
    all_goals
      go_ret
      exact ⟨ret_bool (by have := (known_iff t).1 hk; rw [Bool.eq_iff_iff]; simp [nilB]; omega), ((Keep.refl _ _).alloc _).trans (hk1.alloc _) (fun _ hf _ => hf.elim)⟩

set_option maxHeartbeats 1000000 in
theorem rnil_any (t n : Int) (w : World) :
    Calls Tryd.prog 40 #[.agg #[.int .i64 t, .int .i64 n]] w fun e w' => e = .returned (.bool (nilB t n)) ∧ Keep NoB w w' := by
  cases hk : okB t n
  · have hf : nilB t n = false := by rw [nil_not]; have := (ok_not t n).1 hk; omega
    have HF := Lib.hid hf
    have HC := Lib.hid (chk_bad hk)
    clear hf hk
    go_enter Tryd.func40, Tryd.ntmps40
    go_wp2_with fail
    refine (rcheck_any t n _).mono ?_
    rw [HC.out]
    rintro e w1 ⟨rfl, hk1⟩
    go_wp2
    go_ret
    exact ⟨ret_bool (by rw [HF.out]), ((Keep.refl _ _).alloc _).trans hk1 (fun _ hf _ => hf.elim)⟩
  · have HK := Lib.hid ((ok_iff t n).1 hk)
    have HC := Lib.hid (chk_ok hk)
    clear hk
    by_cases h1 : 1 < t
    all_goals
      go_enter Tryd.func40, Tryd.ntmps40
      go_wp2_with fail
      refine (rcheck_any t n _).mono ?_
      rw [HC.out]
      rintro e w1 ⟨rfl, hk1⟩
      have hb := (Blk.new w 35 #[.int .i64 t, .int .i64 n]).keep hk1 id
      have hz := hb.lt
      have hc0 : w1.cell? ⟨w.heap.size, 0, none⟩ = some (.int .i64 t) := hb.cell 0
      have hc1 : w1.cell? ⟨w.heap.size, 1, none⟩ = some (.int .i64 n) := hb.cell 1
      clear hb
      go_wp2
      all_goals
        go_ret
        exact ⟨ret_bool (by have := HK.out; rw [Bool.eq_iff_iff]; simp [nilB]; omega), ((Keep.refl _ _).alloc _).trans hk1 (fun _ hf _ => hf.elim)⟩

/-! ### great -/

set_option maxHeartbeats 1000000 in
theorem great_no (s : ByteArray) (A B : Option Addr) (n m c d : Nat) (w : World) (h1 : s.size ≤ 2000) (h2 : n ≤ 2000) (h3 : m ≤ 2000) :
    Calls Tryd.prog 9 #[.string s, .slice A n c, .slice B m d] w fun e w' => e = .returned (.bool false) ∧ w = w' := by
  go_enter Tryd.func9, Tryd.ntmps9
  go_wp2
  go_ret
  exact ⟨ret_bool (by simp; omega), rfl⟩
set_option maxHeartbeats 1000000 in
theorem great_yes (s : ByteArray) (A B : Option Addr) (n m c d : Nat) (w : World) (h : ¬ (s.size ≤ 2000 ∧ n ≤ 2000 ∧ m ≤ 2000)) (hn : n ≤ 9223372036854775807) (hm : m ≤ 9223372036854775807) (hs : s.size ≤ 9223372036854775807) :
    Calls Tryd.prog 9 #[.string s, .slice A n c, .slice B m d] w fun e w' => e = .returned (.bool true) ∧ w = w' := by
  have H := Lib.hid h
  clear h
  go_enter Tryd.func9, Tryd.ntmps9
  go_wp2
  all_goals
    go_ret
    exact ⟨ret_bool (by have := H.out; simp <;> omega), rfl⟩

end Go.Proofs.YtkhbmbkjaeaamaaDoor
