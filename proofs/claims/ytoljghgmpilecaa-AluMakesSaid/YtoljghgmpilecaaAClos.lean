/-
  The operations on two numbers, each closure by a contract. No conditions.
-/
import Derived.Test.YtoljghgmpilecaaAGuard
import Derived.Test.YtoljghgmpilecaaALaws
namespace Go.Proofs.Ytoljghgmpilecaa
open Go.RowKit Go.Maps

theorem truth_yes (w : World) : Calls Try.prog 41 #[.bool true] w fun e w' => e = .returned (.int .i64 1) ∧ w = w' := by
  go_enter Try.func41, Try.ntmps41
  go_wp2
  go_ret
  exact ⟨rfl, rfl⟩
theorem truth_no (w : World) : Calls Try.prog 41 #[.bool false] w fun e w' => e = .returned (.int .i64 0) ∧ w = w' := by
  go_enter Try.func41, Try.ntmps41
  go_wp2
  go_ret
  exact ⟨rfl, rfl⟩

theorem cl_0 (a b : Int) (w : World) :
    Calls Try.prog 27 #[.int .i64 a, .int .i64 b] w fun e w' => e = .returned (.tuple #[.int .i64 (binN 0 a b), .int .i64 (binC 0 b)]) ∧ Keep NoB w w' := by
  go_enter Try.func27, Try.ntmps27
  go_wp2
  go_ret2
  exact ⟨ret2 rfl rfl, Keep.refl _ _⟩

theorem cl_1 (a b : Int) (w : World) :
    Calls Try.prog 28 #[.int .i64 a, .int .i64 b] w fun e w' => e = .returned (.tuple #[.int .i64 (binN 1 a b), .int .i64 (binC 1 b)]) ∧ Keep NoB w w' := by
  go_enter Try.func28, Try.ntmps28
  go_wp2
  go_ret2
  exact ⟨ret2 rfl rfl, Keep.refl _ _⟩

theorem cl_2 (a b : Int) (w : World) :
    Calls Try.prog 29 #[.int .i64 a, .int .i64 b] w fun e w' => e = .returned (.tuple #[.int .i64 (binN 2 a b), .int .i64 (binC 2 b)]) ∧ Keep NoB w w' := by
  go_enter Try.func29, Try.ntmps29
  go_wp2
  go_ret2
  exact ⟨ret2 rfl rfl, Keep.refl _ _⟩

theorem cl_5 (a b : Int) (w : World) :
    Calls Try.prog 33 #[.int .i64 a, .int .i64 b] w fun e w' => e = .returned (.tuple #[.int .i64 (binN 5 a b), .int .i64 (binC 5 b)]) ∧ Keep NoB w w' := by
  go_enter Try.func33, Try.ntmps33
  go_wp2
  go_ret2
  exact ⟨ret2 rfl rfl, Keep.refl _ _⟩

theorem cl_6 (a b : Int) (w : World) :
    Calls Try.prog 34 #[.int .i64 a, .int .i64 b] w fun e w' => e = .returned (.tuple #[.int .i64 (binN 6 a b), .int .i64 (binC 6 b)]) ∧ Keep NoB w w' := by
  go_enter Try.func34, Try.ntmps34
  go_wp2
  go_ret2
  exact ⟨ret2 rfl rfl, Keep.refl _ _⟩

theorem cl_7 (a b : Int) (w : World) :
    Calls Try.prog 35 #[.int .i64 a, .int .i64 b] w fun e w' => e = .returned (.tuple #[.int .i64 (binN 7 a b), .int .i64 (binC 7 b)]) ∧ Keep NoB w w' := by
  go_enter Try.func35, Try.ntmps35
  go_wp2
  go_ret2
  exact ⟨ret2 rfl rfl, Keep.refl _ _⟩

theorem cl_8 (a b : Int) (w : World) :
    Calls Try.prog 36 #[.int .i64 a, .int .i64 b] w fun e w' => e = .returned (.tuple #[.int .i64 (binN 8 a b), .int .i64 (binC 8 b)]) ∧ Keep NoB w w' := by
  go_enter Try.func36, Try.ntmps36
  go_wp2
  go_ret2
  exact ⟨ret2 rfl rfl, Keep.refl _ _⟩

theorem cl_11 (a b : Int) (w : World) :
    Calls Try.prog 40 #[.int .i64 a, .int .i64 b] w fun e w' => e = .returned (.tuple #[.int .i64 (binN 11 a b), .int .i64 (binC 11 b)]) ∧ Keep NoB w w' := by
  by_cases h : a < b
  · have H : binN 11 a b = 1 := by unfold binN; simp [h]
    have h' : decide (a < b) = true := by simpa using h
    rw [H]
    go_enter Try.func40, Try.ntmps40
    go_wp2_with (go_at_call 41; refine (truth_yes _).mono ?_; rintro e w' ⟨rfl, rfl⟩)
    go_ret2
    exact ⟨ret2 rfl rfl, Keep.refl _ _⟩
  · have H : binN 11 a b = 0 := by unfold binN; simp [h]
    have h' : decide (a < b) = false := by simpa using h
    rw [H]
    go_enter Try.func40, Try.ntmps40
    go_wp2_with (go_at_call 41; refine (truth_no _).mono ?_; rintro e w' ⟨rfl, rfl⟩)
    go_ret2
    exact ⟨ret2 rfl rfl, Keep.refl _ _⟩

theorem cl_12 (a b : Int) (w : World) :
    Calls Try.prog 42 #[.int .i64 a, .int .i64 b] w fun e w' => e = .returned (.tuple #[.int .i64 (binN 12 a b), .int .i64 (binC 12 b)]) ∧ Keep NoB w w' := by
  by_cases h : a ≤ b
  · have H : binN 12 a b = 1 := by unfold binN; simp [h]
    have h' : decide (a ≤ b) = true := by simpa using h
    rw [H]
    go_enter Try.func42, Try.ntmps42
    go_wp2_with (go_at_call 41; refine (truth_yes _).mono ?_; rintro e w' ⟨rfl, rfl⟩)
    go_ret2
    exact ⟨ret2 rfl rfl, Keep.refl _ _⟩
  · have H : binN 12 a b = 0 := by unfold binN; simp [h]
    have h' : decide (a ≤ b) = false := by simpa using h
    rw [H]
    go_enter Try.func42, Try.ntmps42
    go_wp2_with (go_at_call 41; refine (truth_no _).mono ?_; rintro e w' ⟨rfl, rfl⟩)
    go_ret2
    exact ⟨ret2 rfl rfl, Keep.refl _ _⟩

theorem cl_13 (a b : Int) (w : World) :
    Calls Try.prog 43 #[.int .i64 a, .int .i64 b] w fun e w' => e = .returned (.tuple #[.int .i64 (binN 13 a b), .int .i64 (binC 13 b)]) ∧ Keep NoB w w' := by
  by_cases h : a = b
  · have H : binN 13 a b = 1 := by unfold binN; simp [h]
    have h' : (a == b) = true := by simpa using h
    rw [H]
    go_enter Try.func43, Try.ntmps43
    go_wp2_with (go_at_call 41; refine (truth_yes _).mono ?_; rintro e w' ⟨rfl, rfl⟩)
    go_ret2
    exact ⟨ret2 rfl rfl, Keep.refl _ _⟩
  · have H : binN 13 a b = 0 := by unfold binN; simp [h]
    have h' : (a == b) = false := by simpa using h
    rw [H]
    go_enter Try.func43, Try.ntmps43
    go_wp2_with (go_at_call 41; refine (truth_no _).mono ?_; rintro e w' ⟨rfl, rfl⟩)
    go_ret2
    exact ⟨ret2 rfl rfl, Keep.refl _ _⟩

theorem div_zero (a : Int) (w : World) :
    Calls Try.prog 31 #[.int .i64 a, .int .i64 0] w fun e w' => ∃ u pv, e = .panicked [{ v := .iface u pv, recovered := false }] ∧ w = w' := by
  go_enter Try.func31, Try.ntmps31
  go_wp2
  simp [bodyPost]

theorem div_some (a b : Int) (hb : ¬ b = 0) (w : World) :
    Calls Try.prog 31 #[.int .i64 a, .int .i64 b] w fun e w' => e = .returned (.int .i64 (wrap64 (a.tdiv b))) ∧ w = w' := by
  go_enter Try.func31, Try.ntmps31
  go_wp2
  go_ret
  exact ⟨rfl, rfl⟩

theorem cl_3 (n : Nat) (a b : Int) (w : World) (hc : w.cell? ⟨n, 0, none⟩ = some (.func (.func 31) #[] #[])) :
    Calls Try.prog 55 #[.int .i64 a, .int .i64 b, .pointer (some ⟨n, 0, none⟩)] w fun e w' => e = .returned (.tuple #[.int .i64 (binN 3 a b), .int .i64 (binC 3 b)]) ∧ Keep NoB w w' := by
  by_cases h0 : b = 0
  · have H : binN 3 a b = 0 ∧ binC 3 b = 2 := by unfold binN binC; simp [h0]
    rw [H.1, H.2]
    subst h0
    exact guarded_zero _ n Try.call31 a w hc (Lib.hid (div_zero a))
  · have H : binN 3 a b = wrap64 (a.tdiv b) ∧ binC 3 b = 0 := by unfold binN binC; simp [h0]
    rw [H.1, H.2]
    exact guarded_some _ n Try.call31 a b _ w hc (Lib.hid (div_some a b h0))

theorem rem_zero (a : Int) (w : World) :
    Calls Try.prog 32 #[.int .i64 a, .int .i64 0] w fun e w' => ∃ u pv, e = .panicked [{ v := .iface u pv, recovered := false }] ∧ w = w' := by
  go_enter Try.func32, Try.ntmps32
  go_wp2
  simp [bodyPost]

theorem rem_some (a b : Int) (hb : ¬ b = 0) (w : World) :
    Calls Try.prog 32 #[.int .i64 a, .int .i64 b] w fun e w' => e = .returned (.int .i64 (a.tmod b)) ∧ w = w' := by
  go_enter Try.func32, Try.ntmps32
  go_wp2
  go_ret
  exact ⟨rfl, rfl⟩

theorem cl_4 (n : Nat) (a b : Int) (w : World) (hc : w.cell? ⟨n, 0, none⟩ = some (.func (.func 32) #[] #[])) :
    Calls Try.prog 55 #[.int .i64 a, .int .i64 b, .pointer (some ⟨n, 0, none⟩)] w fun e w' => e = .returned (.tuple #[.int .i64 (binN 4 a b), .int .i64 (binC 4 b)]) ∧ Keep NoB w w' := by
  by_cases h0 : b = 0
  · have H : binN 4 a b = 0 ∧ binC 4 b = 2 := by unfold binN binC; simp [h0]
    rw [H.1, H.2]
    subst h0
    exact guarded_zero _ n Try.call32 a w hc (Lib.hid (rem_zero a))
  · have H : binN 4 a b = a.tmod b ∧ binC 4 b = 0 := by unfold binN binC; simp [h0]
    rw [H.1, H.2]
    exact guarded_some _ n Try.call32 a b _ w hc (Lib.hid (rem_some a b h0))

set_option maxRecDepth 100000 in
set_option maxHeartbeats 4000000 in
theorem shifting_neg (n : Nat) (a b : Int) (hb : b < 0) (w : World) :
    Calls Try.prog 57 #[.int .i64 a, .int .i64 b, .pointer (some ⟨n, 0, none⟩)] w fun e w' => e = .returned (.tuple #[.int .i64 0, .int .i64 4]) ∧ Keep NoB w w' := by
  go_enter Try.func57, Try.ntmps57
  go_wp2
  go_ret2
  exact ⟨rfl, Keep.refl _ _⟩

set_option maxRecDepth 100000 in
set_option maxHeartbeats 4000000 in
theorem shifting_some (g n : Nat) (hcf : ∀ (args : Array Value) (w : World), (callFunc g args).run Try.prog w = .ok (.enter g args) w) (a v : Int) (b : Nat) (hb : I64 b) (w : World) (hc : w.cell? ⟨n, 0, none⟩ = some (.func (.func g) #[] #[]))
    (HG : Hid (∀ W, Calls Try.prog g #[.int .i64 a, .int .u64 b] W fun e w' => e = .returned (.int .i64 v) ∧ W = w')) :
    Calls Try.prog 57 #[.int .i64 a, .int .i64 b, .pointer (some ⟨n, 0, none⟩)] w fun e w' => e = .returned (.tuple #[.int .i64 v, .int .i64 0]) ∧ Keep NoB w w' := by
  unfold I64 at hb
  go_enter Try.func57, Try.ntmps57
  go_wp2_with fail
  refine (HG.out _).mono ?_
  rintro e w' ⟨rfl, rfl⟩
  go_wp2
  go_ret2
  exact ⟨rfl, Keep.refl _ _⟩

theorem shl_some (a : Int) (b : Nat) (w : World) :
    Calls Try.prog 38 #[.int .i64 a, .int .u64 b] w fun e w' => e = .returned (.int .i64 (wrap64 (a * 2 ^ min b 64))) ∧ w = w' := by
  go_enter Try.func38, Try.ntmps38
  go_wp2
  go_ret
  exact ⟨rfl, rfl⟩

theorem cl_9 (n : Nat) (a b : Int) (w : World) (hb : I64 b) (hc : w.cell? ⟨n, 0, none⟩ = some (.func (.func 38) #[] #[])) :
    Calls Try.prog 57 #[.int .i64 a, .int .i64 b, .pointer (some ⟨n, 0, none⟩)] w fun e w' => e = .returned (.tuple #[.int .i64 (binN 9 a b), .int .i64 (binC 9 b)]) ∧ Keep NoB w w' := by
  by_cases h0 : b < 0
  · have H : binN 9 a b = 0 ∧ binC 9 b = 4 := by unfold binN binC; simp [h0]
    rw [H.1, H.2]
    exact shifting_neg n a b h0 w
  · obtain ⟨m, rfl⟩ := Int.eq_ofNat_of_zero_le (show 0 ≤ b by omega)
    have H : binN 9 a (m : Int) = wrap64 (a * 2 ^ min m 64) ∧ binC 9 (m : Int) = 0 := by unfold binN binC; simp [h0]
    rw [H.1, H.2]
    exact shifting_some _ n Try.call38 a _ m hb w hc (Lib.hid (shl_some a m))

theorem shr_some (a : Int) (b : Nat) (w : World) :
    Calls Try.prog 39 #[.int .i64 a, .int .u64 b] w fun e w' => e = .returned (.int .i64 (a / 2 ^ min b 64)) ∧ w = w' := by
  go_enter Try.func39, Try.ntmps39
  go_wp2
  go_ret
  exact ⟨rfl, rfl⟩

theorem cl_10 (n : Nat) (a b : Int) (w : World) (hb : I64 b) (hc : w.cell? ⟨n, 0, none⟩ = some (.func (.func 39) #[] #[])) :
    Calls Try.prog 57 #[.int .i64 a, .int .i64 b, .pointer (some ⟨n, 0, none⟩)] w fun e w' => e = .returned (.tuple #[.int .i64 (binN 10 a b), .int .i64 (binC 10 b)]) ∧ Keep NoB w w' := by
  by_cases h0 : b < 0
  · have H : binN 10 a b = 0 ∧ binC 10 b = 4 := by unfold binN binC; simp [h0]
    rw [H.1, H.2]
    exact shifting_neg n a b h0 w
  · obtain ⟨m, rfl⟩ := Int.eq_ofNat_of_zero_le (show 0 ≤ b by omega)
    have H : binN 10 a (m : Int) = a / 2 ^ min m 64 ∧ binC 10 (m : Int) = 0 := by unfold binN binC; simp [h0]
    rw [H.1, H.2]
    exact shifting_some _ n Try.call39 a _ m hb w hc (Lib.hid (shr_some a m))

end Go.Proofs.Ytoljghgmpilecaa
