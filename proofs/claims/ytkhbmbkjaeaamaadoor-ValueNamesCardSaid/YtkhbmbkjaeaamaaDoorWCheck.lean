/-
  What Known, Check, Zero and Nil answer, the code's and the document's. No conditions.
-/
import Derived.Test.YtkhbmbkjaeaamaaDoorWPure
import Derived.Test.YtkhbmbkjaeaamaaDoorWMem
namespace Go.Proofs.YtkhbmbkjaeaamaaDoor
open Go.RowKit

/-- What Check answers. -/
def chk (t n : Int) : Int := if okB t n = true then 0 else 21
theorem chk_ok {t n : Int} (h : okB t n = true) : chk t n = 0 := by unfold chk; rw [if_pos h]
theorem chk_bad {t n : Int} (h : okB t n = false) : chk t n = 21 := by unfold chk; rw [if_neg (by simp [h])]

set_option maxHeartbeats 400000 in
theorem known_any (t : Int) (w : World) :
    Calls Tryd.prog 12 #[.int .i64 t] w fun e w' => e = .returned (.bool (knownB t)) ∧ w = w' := by
  by_cases h1 : 1 ≤ t
  · by_cases h2 : t < 5
    · go_enter Tryd.func12, Tryd.ntmps12
      go_wp2
      go_ret
      exact ⟨ret_bool (by simp [knownB]; omega), rfl⟩
    · go_enter Tryd.func12, Tryd.ntmps12
      go_wp2
      go_ret
      exact ⟨ret_bool (by simp [knownB]; omega), rfl⟩
  · go_enter Tryd.func12, Tryd.ntmps12
    go_wp2
    go_ret
    exact ⟨ret_bool (by simp [knownB]; omega), rfl⟩

set_option maxHeartbeats 400000 in
theorem rknown_any (t : Int) (w : World) :
    Calls Tryd.prog 13 #[.int .i64 t] w fun e w' => e = .returned (.bool (knownB t)) ∧ w = w' := by
  go_enter Tryd.func13, Tryd.ntmps13
  go_wp2
  all_goals
    go_ret
    exact ⟨ret_bool (by rw [Bool.eq_iff_iff]; simp [knownB]; omega), rfl⟩

set_option maxHeartbeats 1000000 in
theorem check_ok (t n : Int) (w : World) (h : okB t n = true) :
    Calls Tryd.prog 30 #[.agg #[.int .i64 t, .int .i64 n]] w fun e w' => e = .returned (.int .i64 0) ∧ Keep NoB w w' := by
  have hk := ok_known h
  have ho := (ok_iff t n).1 h
  clear h
  by_cases h1 : t = 1
  · subst h1
    by_cases hn : n < 0
    · go_enter Tryd.func30, Tryd.ntmps30
      go_wp2_with (go_at_call 12; refine (known_any _ _).mono ?_; rintro e w' ⟨rfl, rfl⟩)
      go_ret
      exact ⟨rfl, (Keep.refl _ _).alloc _⟩
    · go_enter Tryd.func30, Tryd.ntmps30
      go_wp2_with (go_at_call 12; refine (known_any _ _).mono ?_; rintro e w' ⟨rfl, rfl⟩)
      go_ret
      exact ⟨rfl, (Keep.refl _ _).alloc _⟩
  · have hn : ¬ n < 0 := by omega
    clear h1 ho
    go_enter Tryd.func30, Tryd.ntmps30
    go_wp2_with (go_at_call 12; refine (known_any _ _).mono ?_; rintro e w' ⟨rfl, rfl⟩)
    go_ret
    exact ⟨rfl, (Keep.refl _ _).alloc _⟩

set_option maxHeartbeats 1000000 in
theorem check_bad (t n : Int) (w : World) (h : okB t n = false) :
    Calls Tryd.prog 30 #[.agg #[.int .i64 t, .int .i64 n]] w fun e w' => e = .returned (.int .i64 21) ∧ Keep NoB w w' := by
  have ho := (ok_not t n).1 h
  clear h
  cases hk : knownB t
  · clear ho
    go_enter Tryd.func30, Tryd.ntmps30
    go_wp2_with (go_at_call 12; refine (known_any _ _).mono ?_; rintro e w' ⟨rfl, rfl⟩)
    go_ret
    exact ⟨rfl, (Keep.refl _ _).alloc _⟩
  · have hk' := (known_iff t).1 hk
    have hn : n < 0 := by omega
    have h1 : ¬ t = 1 := by omega
    clear ho hk'
    go_enter Tryd.func30, Tryd.ntmps30
    go_wp2_with (go_at_call 12; refine (known_any _ _).mono ?_; rintro e w' ⟨rfl, rfl⟩)
    go_ret
    exact ⟨rfl, (Keep.refl _ _).alloc _⟩

/-- Check, in one form. -/
theorem check_any (t n : Int) (w : World) :
    Calls Tryd.prog 30 #[.agg #[.int .i64 t, .int .i64 n]] w fun e w' => e = .returned (.int .i64 (chk t n)) ∧ Keep NoB w w' := by
  cases h : okB t n
  · rw [chk_bad h]; exact check_bad t n w h
  · rw [chk_ok h]; exact check_ok t n w h

set_option maxHeartbeats 1000000 in
theorem rcheck_any (t n : Int) (w : World) :
    Calls Tryd.prog 39 #[.agg #[.int .i64 t, .int .i64 n]] w fun e w' => e = .returned (.int .i64 (chk t n)) ∧ Keep NoB w w' := by
  cases h : okB t n
  · rw [chk_bad h]
    have ho := (ok_not t n).1 h
    clear h
    cases hk : knownB t
    · clear ho
      go_enter Tryd.func39, Tryd.ntmps39
      go_wp2_with (go_at_call 13; refine (rknown_any _ _).mono ?_; rintro e w' ⟨rfl, rfl⟩)
      go_ret
      exact ⟨rfl, (Keep.refl _ _).alloc _⟩
    · have hk' := (known_iff t).1 hk
      have hn : n < 0 := by omega
      have h1 : 1 < t := by omega
      clear ho hk'
      go_enter Tryd.func39, Tryd.ntmps39
      go_wp2_with (go_at_call 13; refine (rknown_any _ _).mono ?_; rintro e w' ⟨rfl, rfl⟩)
      go_ret
      exact ⟨rfl, (Keep.refl _ _).alloc _⟩
  · rw [chk_ok h]
    have hk := ok_known h
    have ho := (ok_iff t n).1 h
    clear h
    by_cases h1 : 1 < t
    · have hn : ¬ n < 0 := by omega
      clear ho
      go_enter Tryd.func39, Tryd.ntmps39
      go_wp2_with (go_at_call 13; refine (rknown_any _ _).mono ?_; rintro e w' ⟨rfl, rfl⟩)
      go_ret
      exact ⟨rfl, (Keep.refl _ _).alloc _⟩
    · clear ho
      go_enter Tryd.func39, Tryd.ntmps39
      go_wp2_with (go_at_call 13; refine (rknown_any _ _).mono ?_; rintro e w' ⟨rfl, rfl⟩)
      go_ret
      exact ⟨rfl, (Keep.refl _ _).alloc _⟩

/-! ### Zero, Nil -/

set_option maxHeartbeats 1000000 in
theorem zero_ok (t : Int) (w : World) (h : knownB t = true) :
    Calls Tryd.prog 47 #[.int .i64 t] w fun e w' => e = .returned (.tuple #[.agg #[.int .i64 t, .int .i64 0], .int .i64 0]) ∧ Keep NoB w w' := by
  go_enter Tryd.func47, Tryd.ntmps47
  go_wp2_with (go_at_call 12; refine (known_any _ _).mono ?_; rintro e w' ⟨rfl, rfl⟩)
  exact bodyPost_ret (v := .tuple #[.agg #[.int .i64 t, .int .i64 0], .int .i64 0]) (by simp [results, Tryd.results47, go_sem]) rfl ⟨rfl, (Keep.refl _ _).alloc _⟩
set_option maxHeartbeats 1000000 in
theorem zero_bad (t : Int) (w : World) (h : knownB t = false) :
    Calls Tryd.prog 47 #[.int .i64 t] w fun e w' => e = .returned (.tuple #[.agg #[.int .i64 0, .int .i64 0], .int .i64 20]) ∧ Keep NoB w w' := by
  go_enter Tryd.func47, Tryd.ntmps47
  go_wp2_with (go_at_call 12; refine (known_any _ _).mono ?_; rintro e w' ⟨rfl, rfl⟩)
  exact bodyPost_ret (v := .tuple #[.agg #[.int .i64 0, .int .i64 0], .int .i64 20]) (by simp [results, Tryd.results47, go_sem]) rfl ⟨rfl, (Keep.refl _ _).alloc _⟩

end Go.Proofs.YtkhbmbkjaeaamaaDoor
