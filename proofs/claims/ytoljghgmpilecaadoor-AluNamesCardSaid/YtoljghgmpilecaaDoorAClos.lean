/-
  The operations on two numbers, each closure by a contract. No conditions.
-/
import Derived.Test.YtoljghgmpilecaaDoorAGuard
namespace Go.Proofs.YtoljghgmpilecaaDoor
open Go.RowKit Go.Maps

theorem truth_yes (w : World) : Calls Tryd.prog 38 #[.bool true] w fun e w' => e = .returned (.int .i64 1) ∧ w = w' := by
  go_enter Tryd.func38, Tryd.ntmps38
  go_wp2
  go_ret
  exact ⟨rfl, rfl⟩
theorem truth_no (w : World) : Calls Tryd.prog 38 #[.bool false] w fun e w' => e = .returned (.int .i64 0) ∧ w = w' := by
  go_enter Tryd.func38, Tryd.ntmps38
  go_wp2
  go_ret
  exact ⟨rfl, rfl⟩

theorem cl_0 (a b : Int) (w : World) :
    Calls Tryd.prog 24 #[.int .i64 a, .int .i64 b] w fun e w' => e = .returned (.tuple #[.int .i64 (binN 0 a b), .int .i64 (binC 0 b)]) ∧ Keep NoB w w' := by
  go_enter Tryd.func24, Tryd.ntmps24
  go_wp2
  go_ret2
  exact ⟨pr2 rfl rfl, Keep.refl _ _⟩

theorem cl_1 (a b : Int) (w : World) :
    Calls Tryd.prog 25 #[.int .i64 a, .int .i64 b] w fun e w' => e = .returned (.tuple #[.int .i64 (binN 1 a b), .int .i64 (binC 1 b)]) ∧ Keep NoB w w' := by
  go_enter Tryd.func25, Tryd.ntmps25
  go_wp2
  go_ret2
  exact ⟨pr2 rfl rfl, Keep.refl _ _⟩

theorem cl_2 (a b : Int) (w : World) :
    Calls Tryd.prog 26 #[.int .i64 a, .int .i64 b] w fun e w' => e = .returned (.tuple #[.int .i64 (binN 2 a b), .int .i64 (binC 2 b)]) ∧ Keep NoB w w' := by
  go_enter Tryd.func26, Tryd.ntmps26
  go_wp2
  go_ret2
  exact ⟨pr2 rfl rfl, Keep.refl _ _⟩

theorem cl_5 (a b : Int) (w : World) :
    Calls Tryd.prog 30 #[.int .i64 a, .int .i64 b] w fun e w' => e = .returned (.tuple #[.int .i64 (binN 5 a b), .int .i64 (binC 5 b)]) ∧ Keep NoB w w' := by
  go_enter Tryd.func30, Tryd.ntmps30
  go_wp2
  go_ret2
  exact ⟨pr2 rfl rfl, Keep.refl _ _⟩

theorem cl_6 (a b : Int) (w : World) :
    Calls Tryd.prog 31 #[.int .i64 a, .int .i64 b] w fun e w' => e = .returned (.tuple #[.int .i64 (binN 6 a b), .int .i64 (binC 6 b)]) ∧ Keep NoB w w' := by
  go_enter Tryd.func31, Tryd.ntmps31
  go_wp2
  go_ret2
  exact ⟨pr2 rfl rfl, Keep.refl _ _⟩

theorem cl_7 (a b : Int) (w : World) :
    Calls Tryd.prog 32 #[.int .i64 a, .int .i64 b] w fun e w' => e = .returned (.tuple #[.int .i64 (binN 7 a b), .int .i64 (binC 7 b)]) ∧ Keep NoB w w' := by
  go_enter Tryd.func32, Tryd.ntmps32
  go_wp2
  go_ret2
  exact ⟨pr2 rfl rfl, Keep.refl _ _⟩

theorem cl_8 (a b : Int) (w : World) :
    Calls Tryd.prog 33 #[.int .i64 a, .int .i64 b] w fun e w' => e = .returned (.tuple #[.int .i64 (binN 8 a b), .int .i64 (binC 8 b)]) ∧ Keep NoB w w' := by
  go_enter Tryd.func33, Tryd.ntmps33
  go_wp2
  go_ret2
  exact ⟨pr2 rfl rfl, Keep.refl _ _⟩

theorem cl_11 (a b : Int) (w : World) :
    Calls Tryd.prog 37 #[.int .i64 a, .int .i64 b] w fun e w' => e = .returned (.tuple #[.int .i64 (binN 11 a b), .int .i64 (binC 11 b)]) ∧ Keep NoB w w' := by
  by_cases h : a < b
  · have H : binN 11 a b = 1 := by unfold binN; simp [h]
    have h' : decide (a < b) = true := by simpa using h
    rw [H]
    go_enter Tryd.func37, Tryd.ntmps37
    go_wp2_with (go_at_call 38; refine (truth_yes _).mono ?_; rintro e w' ⟨rfl, rfl⟩)
    go_ret2
    exact ⟨pr2 rfl rfl, Keep.refl _ _⟩
  · have H : binN 11 a b = 0 := by unfold binN; simp [h]
    have h' : decide (a < b) = false := by simpa using h
    rw [H]
    go_enter Tryd.func37, Tryd.ntmps37
    go_wp2_with (go_at_call 38; refine (truth_no _).mono ?_; rintro e w' ⟨rfl, rfl⟩)
    go_ret2
    exact ⟨pr2 rfl rfl, Keep.refl _ _⟩

theorem cl_12 (a b : Int) (w : World) :
    Calls Tryd.prog 39 #[.int .i64 a, .int .i64 b] w fun e w' => e = .returned (.tuple #[.int .i64 (binN 12 a b), .int .i64 (binC 12 b)]) ∧ Keep NoB w w' := by
  by_cases h : a ≤ b
  · have H : binN 12 a b = 1 := by unfold binN; simp [h]
    have h' : decide (a ≤ b) = true := by simpa using h
    rw [H]
    go_enter Tryd.func39, Tryd.ntmps39
    go_wp2_with (go_at_call 38; refine (truth_yes _).mono ?_; rintro e w' ⟨rfl, rfl⟩)
    go_ret2
    exact ⟨pr2 rfl rfl, Keep.refl _ _⟩
  · have H : binN 12 a b = 0 := by unfold binN; simp [h]
    have h' : decide (a ≤ b) = false := by simpa using h
    rw [H]
    go_enter Tryd.func39, Tryd.ntmps39
    go_wp2_with (go_at_call 38; refine (truth_no _).mono ?_; rintro e w' ⟨rfl, rfl⟩)
    go_ret2
    exact ⟨pr2 rfl rfl, Keep.refl _ _⟩

theorem cl_13 (a b : Int) (w : World) :
    Calls Tryd.prog 40 #[.int .i64 a, .int .i64 b] w fun e w' => e = .returned (.tuple #[.int .i64 (binN 13 a b), .int .i64 (binC 13 b)]) ∧ Keep NoB w w' := by
  by_cases h : a = b
  · have H : binN 13 a b = 1 := by unfold binN; simp [h]
    have h' : (a == b) = true := by simpa using h
    rw [H]
    go_enter Tryd.func40, Tryd.ntmps40
    go_wp2_with (go_at_call 38; refine (truth_yes _).mono ?_; rintro e w' ⟨rfl, rfl⟩)
    go_ret2
    exact ⟨pr2 rfl rfl, Keep.refl _ _⟩
  · have H : binN 13 a b = 0 := by unfold binN; simp [h]
    have h' : (a == b) = false := by simpa using h
    rw [H]
    go_enter Tryd.func40, Tryd.ntmps40
    go_wp2_with (go_at_call 38; refine (truth_no _).mono ?_; rintro e w' ⟨rfl, rfl⟩)
    go_ret2
    exact ⟨pr2 rfl rfl, Keep.refl _ _⟩

theorem div_zero (a : Int) (w : World) :
    Calls Tryd.prog 28 #[.int .i64 a, .int .i64 0] w fun e w' => ∃ u pv, e = .panicked [{ v := .iface u pv, recovered := false }] ∧ w = w' := by
  go_enter Tryd.func28, Tryd.ntmps28
  go_wp2
  simp [bodyPost]

theorem div_some (a b : Int) (hb : ¬ b = 0) (w : World) :
    Calls Tryd.prog 28 #[.int .i64 a, .int .i64 b] w fun e w' => e = .returned (.int .i64 (wrap64 (a.tdiv b))) ∧ w = w' := by
  go_enter Tryd.func28, Tryd.ntmps28
  go_wp2
  go_ret
  exact ⟨rfl, rfl⟩

theorem cl_3 (n : Nat) (a b : Int) (w : World) (hc : w.cell? ⟨n, 0, none⟩ = some (.func (.func 28) #[] #[])) :
    Calls Tryd.prog 50 #[.int .i64 a, .int .i64 b, .pointer (some ⟨n, 0, none⟩)] w fun e w' => e = .returned (.tuple #[.int .i64 (binN 3 a b), .int .i64 (binC 3 b)]) ∧ Keep NoB w w' := by
  by_cases h0 : b = 0
  · have H : binN 3 a b = 0 ∧ binC 3 b = 2 := by unfold binN binC; simp [h0]
    rw [H.1, H.2]
    subst h0
    exact guarded_zero _ n Tryd.call28 a w hc (Lib.hid (div_zero a))
  · have H : binN 3 a b = wrap64 (a.tdiv b) ∧ binC 3 b = 0 := by unfold binN binC; simp [h0]
    rw [H.1, H.2]
    exact guarded_some _ n Tryd.call28 a b _ w hc (Lib.hid (div_some a b h0))

theorem rem_zero (a : Int) (w : World) :
    Calls Tryd.prog 29 #[.int .i64 a, .int .i64 0] w fun e w' => ∃ u pv, e = .panicked [{ v := .iface u pv, recovered := false }] ∧ w = w' := by
  go_enter Tryd.func29, Tryd.ntmps29
  go_wp2
  simp [bodyPost]

theorem rem_some (a b : Int) (hb : ¬ b = 0) (w : World) :
    Calls Tryd.prog 29 #[.int .i64 a, .int .i64 b] w fun e w' => e = .returned (.int .i64 (a.tmod b)) ∧ w = w' := by
  go_enter Tryd.func29, Tryd.ntmps29
  go_wp2
  go_ret
  exact ⟨rfl, rfl⟩

theorem cl_4 (n : Nat) (a b : Int) (w : World) (hc : w.cell? ⟨n, 0, none⟩ = some (.func (.func 29) #[] #[])) :
    Calls Tryd.prog 50 #[.int .i64 a, .int .i64 b, .pointer (some ⟨n, 0, none⟩)] w fun e w' => e = .returned (.tuple #[.int .i64 (binN 4 a b), .int .i64 (binC 4 b)]) ∧ Keep NoB w w' := by
  by_cases h0 : b = 0
  · have H : binN 4 a b = 0 ∧ binC 4 b = 2 := by unfold binN binC; simp [h0]
    rw [H.1, H.2]
    subst h0
    exact guarded_zero _ n Tryd.call29 a w hc (Lib.hid (rem_zero a))
  · have H : binN 4 a b = a.tmod b ∧ binC 4 b = 0 := by unfold binN binC; simp [h0]
    rw [H.1, H.2]
    exact guarded_some _ n Tryd.call29 a b _ w hc (Lib.hid (rem_some a b h0))

set_option maxRecDepth 100000 in
set_option maxHeartbeats 4000000 in
theorem shifting_neg (n : Nat) (a b : Int) (hb : b < 0) (w : World) :
    Calls Tryd.prog 52 #[.int .i64 a, .int .i64 b, .pointer (some ⟨n, 0, none⟩)] w fun e w' => e = .returned (.tuple #[.int .i64 0, .int .i64 4]) ∧ Keep NoB w w' := by
  go_enter Tryd.func52, Tryd.ntmps52
  go_wp2
  go_ret2
  exact ⟨rfl, Keep.refl _ _⟩

set_option maxRecDepth 100000 in
set_option maxHeartbeats 4000000 in
theorem shifting_some (g n : Nat) (hcf : ∀ (args : Array Value) (w : World), (callFunc g args).run Tryd.prog w = .ok (.enter g args) w) (a v : Int) (b : Nat) (hb : I64 b) (w : World) (hc : w.cell? ⟨n, 0, none⟩ = some (.func (.func g) #[] #[]))
    (HG : Hid (∀ W, Calls Tryd.prog g #[.int .i64 a, .int .u64 b] W fun e w' => e = .returned (.int .i64 v) ∧ W = w')) :
    Calls Tryd.prog 52 #[.int .i64 a, .int .i64 b, .pointer (some ⟨n, 0, none⟩)] w fun e w' => e = .returned (.tuple #[.int .i64 v, .int .i64 0]) ∧ Keep NoB w w' := by
  unfold I64 at hb
  go_enter Tryd.func52, Tryd.ntmps52
  go_wp2_with fail
  refine (HG.out _).mono ?_
  rintro e w' ⟨rfl, rfl⟩
  go_wp2
  go_ret2
  exact ⟨rfl, Keep.refl _ _⟩

theorem shl_some (a : Int) (b : Nat) (w : World) :
    Calls Tryd.prog 35 #[.int .i64 a, .int .u64 b] w fun e w' => e = .returned (.int .i64 (wrap64 (a * 2 ^ min b 64))) ∧ w = w' := by
  go_enter Tryd.func35, Tryd.ntmps35
  go_wp2
  go_ret
  exact ⟨rfl, rfl⟩

theorem cl_9 (n : Nat) (a b : Int) (w : World) (hb : I64 b) (hc : w.cell? ⟨n, 0, none⟩ = some (.func (.func 35) #[] #[])) :
    Calls Tryd.prog 52 #[.int .i64 a, .int .i64 b, .pointer (some ⟨n, 0, none⟩)] w fun e w' => e = .returned (.tuple #[.int .i64 (binN 9 a b), .int .i64 (binC 9 b)]) ∧ Keep NoB w w' := by
  by_cases h0 : b < 0
  · have H : binN 9 a b = 0 ∧ binC 9 b = 4 := by unfold binN binC; simp [h0]
    rw [H.1, H.2]
    exact shifting_neg n a b h0 w
  · obtain ⟨m, rfl⟩ := Int.eq_ofNat_of_zero_le (show 0 ≤ b by omega)
    have H : binN 9 a (m : Int) = wrap64 (a * 2 ^ min m 64) ∧ binC 9 (m : Int) = 0 := by unfold binN binC; simp [h0]
    rw [H.1, H.2]
    exact shifting_some _ n Tryd.call35 a _ m hb w hc (Lib.hid (shl_some a m))

theorem shr_some (a : Int) (b : Nat) (w : World) :
    Calls Tryd.prog 36 #[.int .i64 a, .int .u64 b] w fun e w' => e = .returned (.int .i64 (a / 2 ^ min b 64)) ∧ w = w' := by
  go_enter Tryd.func36, Tryd.ntmps36
  go_wp2
  go_ret
  exact ⟨rfl, rfl⟩

theorem cl_10 (n : Nat) (a b : Int) (w : World) (hb : I64 b) (hc : w.cell? ⟨n, 0, none⟩ = some (.func (.func 36) #[] #[])) :
    Calls Tryd.prog 52 #[.int .i64 a, .int .i64 b, .pointer (some ⟨n, 0, none⟩)] w fun e w' => e = .returned (.tuple #[.int .i64 (binN 10 a b), .int .i64 (binC 10 b)]) ∧ Keep NoB w w' := by
  by_cases h0 : b < 0
  · have H : binN 10 a b = 0 ∧ binC 10 b = 4 := by unfold binN binC; simp [h0]
    rw [H.1, H.2]
    exact shifting_neg n a b h0 w
  · obtain ⟨m, rfl⟩ := Int.eq_ofNat_of_zero_le (show 0 ≤ b by omega)
    have H : binN 10 a (m : Int) = a / 2 ^ min m 64 ∧ binC 10 (m : Int) = 0 := by unfold binN binC; simp [h0]
    rw [H.1, H.2]
    exact shifting_some _ n Tryd.call36 a _ m hb w hc (Lib.hid (shr_some a m))

end Go.Proofs.YtoljghgmpilecaaDoor
