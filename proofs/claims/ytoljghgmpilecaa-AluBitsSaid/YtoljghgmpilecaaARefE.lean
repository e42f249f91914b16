/-
  The document's own Binary and Unary: what each operation makes, or what is wrong, or the error. No conditions but the numbers' bounds.
-/
import Derived.Test.YtoljghgmpilecaaARefD
import Derived.Test.YtoljghgmpilecaaAPure3
namespace Go.Proofs.Ytoljghgmpilecaa
open Go.RowKit

theorem ret3 {a a' b b' c c' : Int} (h1 : a = a') (h2 : b = b') (h3 : c = c') : Ending.returned (.tuple #[.int .i64 a, .int .i64 b, .int .i64 c]) = .returned (.tuple #[.int .i64 a', .int .i64 b', .int .i64 c']) := by rw [h1, h2, h3]
theorem u_add (a b : Int) : wrap64 (IntKind.u64.wrap (IntKind.u64.wrap a + IntKind.u64.wrap b)) = wrap64 (a + b) := by rw [IntKind.wrap_u64, IntKind.wrap_u64, IntKind.wrap_u64]; exact w_cong (by omega)
theorem u_sub (a b : Int) : wrap64 (IntKind.u64.wrap (IntKind.u64.wrap a - IntKind.u64.wrap b)) = wrap64 (a - b) := by rw [IntKind.wrap_u64, IntKind.wrap_u64, IntKind.wrap_u64]; exact w_cong (by omega)

set_option maxRecDepth 100000 in
set_option maxHeartbeats 4000000 in
theorem rdiv_any (op a b : Int) (w : World) (ha : I64 a) (hb : I64 b) (hop : op = 3 ∨ op = 4) :
    Calls Try.prog 10 #[.int .i64 op, .int .i64 a, .int .i64 b] w fun e w' => e = .returned (.tuple #[.int .i64 (binN op a b), .int .i64 (binC op b), .int .i64 (binE op)]) ∧ w = w' := by
  by_cases h0 : b = 0
  · subst h0
    rcases hop with rfl | rfl
    all_goals
      go_enter Try.func10, Try.ntmps10
      go_wp2
      go_ret3
      exact ⟨rfl, rfl⟩
  · have HQ := Lib.hid (fun W => quotient_any a b W ha hb h0)
    have hb0 : (b == 0) = false := by simpa using h0
    have HD : Hid (binN 3 a b = wrap64 (a.tdiv b) ∧ binN 4 a b = a.tmod b ∧ binC 3 b = 0 ∧ binC 4 b = 0) := Lib.hid (by unfold binN binC; simp [h0])
    have ht := tdiv_abs a b
    have hm := tmod_abs a b
    have hi := (tmod_in ha h0).1
    generalize a.natAbs / b.natAbs = Q at HQ ht
    generalize a.natAbs % b.natAbs = R at HQ hm
    clear h0
    have c11 : a < 0 → b < 0 → Calls Try.prog 10 #[.int .i64 op, .int .i64 a, .int .i64 b] w fun e w' => e = .returned (.tuple #[.int .i64 (binN op a b), .int .i64 (binC op b), .int .i64 (binE op)]) ∧ w = w' := by
      intro na nb
      have ea : decide (a < 0) = true := by simpa using na
      have eb : decide (b < 0) = true := by simpa using nb
      rw [ea, eb, if_neg (by decide)] at ht
      rw [if_pos na] at hm
      rw [hm] at hi
      rw [ht, hm] at HD
      have HI := Lib.hid hi
      clear ht hm hi na nb
      rcases hop with rfl | rfl
      · go_enter Try.func10, Try.ntmps10
        go_wp2_with (first | (go_at_call 19; refine (HQ.out _).mono ?_; rintro e w' ⟨rfl, rfl⟩) | (go_at_call 20; refine (signed_any Q _ _).mono ?_; rintro e w' ⟨rfl, rfl⟩))
        go_ret3
        exact ⟨ret3 HD.out.1.symm HD.out.2.2.1.symm rfl, rfl⟩
      · go_enter Try.func10, Try.ntmps10
        go_wp2_with (first | (go_at_call 19; refine (HQ.out _).mono ?_; rintro e w' ⟨rfl, rfl⟩) | (go_at_call 20; refine (signed_any R _ _).mono ?_; rintro e w' ⟨rfl, rfl⟩))
        go_ret3
        exact ⟨ret3 ((w_in HI.out).trans HD.out.2.1.symm) HD.out.2.2.2.symm rfl, rfl⟩
    have c10 : a < 0 → ¬ b < 0 → Calls Try.prog 10 #[.int .i64 op, .int .i64 a, .int .i64 b] w fun e w' => e = .returned (.tuple #[.int .i64 (binN op a b), .int .i64 (binC op b), .int .i64 (binE op)]) ∧ w = w' := by
      intro na nb
      have ea : decide (a < 0) = true := by simpa using na
      have eb : decide (b < 0) = false := by simpa using nb
      rw [ea, eb, if_pos (by decide)] at ht
      rw [if_pos na] at hm
      rw [hm] at hi
      rw [ht, hm] at HD
      have HI := Lib.hid hi
      clear ht hm hi na nb
      rcases hop with rfl | rfl
      · go_enter Try.func10, Try.ntmps10
        go_wp2_with (first | (go_at_call 19; refine (HQ.out _).mono ?_; rintro e w' ⟨rfl, rfl⟩) | (go_at_call 20; refine (signed_any Q _ _).mono ?_; rintro e w' ⟨rfl, rfl⟩))
        go_ret3
        exact ⟨ret3 HD.out.1.symm HD.out.2.2.1.symm rfl, rfl⟩
      · go_enter Try.func10, Try.ntmps10
        go_wp2_with (first | (go_at_call 19; refine (HQ.out _).mono ?_; rintro e w' ⟨rfl, rfl⟩) | (go_at_call 20; refine (signed_any R _ _).mono ?_; rintro e w' ⟨rfl, rfl⟩))
        go_ret3
        exact ⟨ret3 ((w_in HI.out).trans HD.out.2.1.symm) HD.out.2.2.2.symm rfl, rfl⟩
    have c01 : ¬ a < 0 → b < 0 → Calls Try.prog 10 #[.int .i64 op, .int .i64 a, .int .i64 b] w fun e w' => e = .returned (.tuple #[.int .i64 (binN op a b), .int .i64 (binC op b), .int .i64 (binE op)]) ∧ w = w' := by
      intro na nb
      have ea : decide (a < 0) = false := by simpa using na
      have eb : decide (b < 0) = true := by simpa using nb
      rw [ea, eb, if_pos (by decide)] at ht
      rw [if_neg na] at hm
      rw [hm] at hi
      rw [ht, hm] at HD
      have HI := Lib.hid hi
      clear ht hm hi na nb
      rcases hop with rfl | rfl
      · go_enter Try.func10, Try.ntmps10
        go_wp2_with (first | (go_at_call 19; refine (HQ.out _).mono ?_; rintro e w' ⟨rfl, rfl⟩) | (go_at_call 20; refine (signed_any Q _ _).mono ?_; rintro e w' ⟨rfl, rfl⟩))
        go_ret3
        exact ⟨ret3 HD.out.1.symm HD.out.2.2.1.symm rfl, rfl⟩
      · go_enter Try.func10, Try.ntmps10
        go_wp2_with (first | (go_at_call 19; refine (HQ.out _).mono ?_; rintro e w' ⟨rfl, rfl⟩) | (go_at_call 20; refine (signed_any R _ _).mono ?_; rintro e w' ⟨rfl, rfl⟩))
        go_ret3
        exact ⟨ret3 ((w_in HI.out).trans HD.out.2.1.symm) HD.out.2.2.2.symm rfl, rfl⟩
    have c00 : ¬ a < 0 → ¬ b < 0 → Calls Try.prog 10 #[.int .i64 op, .int .i64 a, .int .i64 b] w fun e w' => e = .returned (.tuple #[.int .i64 (binN op a b), .int .i64 (binC op b), .int .i64 (binE op)]) ∧ w = w' := by
      intro na nb
      have ea : decide (a < 0) = false := by simpa using na
      have eb : decide (b < 0) = false := by simpa using nb
      rw [ea, eb, if_neg (by decide)] at ht
      rw [if_neg na] at hm
      rw [hm] at hi
      rw [ht, hm] at HD
      have HI := Lib.hid hi
      clear ht hm hi na nb
      rcases hop with rfl | rfl
      · go_enter Try.func10, Try.ntmps10
        go_wp2_with (first | (go_at_call 19; refine (HQ.out _).mono ?_; rintro e w' ⟨rfl, rfl⟩) | (go_at_call 20; refine (signed_any Q _ _).mono ?_; rintro e w' ⟨rfl, rfl⟩))
        go_ret3
        exact ⟨ret3 HD.out.1.symm HD.out.2.2.1.symm rfl, rfl⟩
      · go_enter Try.func10, Try.ntmps10
        go_wp2_with (first | (go_at_call 19; refine (HQ.out _).mono ?_; rintro e w' ⟨rfl, rfl⟩) | (go_at_call 20; refine (signed_any R _ _).mono ?_; rintro e w' ⟨rfl, rfl⟩))
        go_ret3
        exact ⟨ret3 ((w_in HI.out).trans HD.out.2.1.symm) HD.out.2.2.2.symm rfl, rfl⟩
    by_cases na : a < 0 <;> by_cases nb : b < 0
    · exact c11 na nb
    · exact c10 na nb
    · exact c01 na nb
    · exact c00 na nb

set_option maxRecDepth 100000 in
set_option maxHeartbeats 4000000 in
theorem rbinary_any (op a b : Int) (w : World) (ha : I64 a) (hb : I64 b) :
    Calls Try.prog 10 #[.int .i64 op, .int .i64 a, .int .i64 b] w fun e w' => e = .returned (.tuple #[.int .i64 (binN op a b), .int .i64 (binC op b), .int .i64 (binE op)]) ∧ w = w' := by
  by_cases hop : 0 ≤ op ∧ op < 14
  · have : op = 0 ∨ op = 1 ∨ op = 2 ∨ (op = 3 ∨ op = 4) ∨ op = 5 ∨ op = 6 ∨ op = 7 ∨ op = 8 ∨ op = 9 ∨ op = 10 ∨ op = 11 ∨ op = 12 ∨ op = 13 := by omega
    rcases this with rfl | rfl | rfl | h34 | rfl | rfl | rfl | rfl | rfl | rfl | rfl | rfl | rfl
    · go_enter Try.func10, Try.ntmps10
      go_wp2
      go_ret3
      exact ⟨ret3 (u_add a b) rfl rfl, rfl⟩
    · go_enter Try.func10, Try.ntmps10
      go_wp2
      go_ret3
      exact ⟨ret3 (u_sub a b) rfl rfl, rfl⟩
    · go_enter Try.func10, Try.ntmps10
      go_wp2_with (go_at_call 18; refine (product_any a b _).mono ?_; rintro e w' ⟨rfl, rfl⟩)
      go_ret3
      exact ⟨ret3 rfl rfl rfl, rfl⟩
    · exact rdiv_any op a b w ha hb h34
    · go_enter Try.func10, Try.ntmps10
      go_wp2_with (go_at_call 21; refine (bits_5 a b _).mono ?_; rintro e w' ⟨rfl, rfl⟩)
      go_ret3
      exact ⟨ret3 (by rw [acc_and]; exact (bits_and a b).symm) rfl rfl, rfl⟩
    · go_enter Try.func10, Try.ntmps10
      go_wp2_with (go_at_call 21; refine (bits_6 a b _).mono ?_; rintro e w' ⟨rfl, rfl⟩)
      go_ret3
      exact ⟨ret3 (by rw [acc_or]; exact (bits_or a b).symm) rfl rfl, rfl⟩
    · go_enter Try.func10, Try.ntmps10
      go_wp2_with (go_at_call 21; refine (bits_7 a b _).mono ?_; rintro e w' ⟨rfl, rfl⟩)
      go_ret3
      exact ⟨ret3 (by rw [acc_xor]; exact (bits_xor a b).symm) rfl rfl, rfl⟩
    · go_enter Try.func10, Try.ntmps10
      go_wp2_with (go_at_call 21; refine (bits_8 a b _).mono ?_; rintro e w' ⟨rfl, rfl⟩)
      go_ret3
      exact ⟨ret3 (by rw [acc_andNot]; exact (bits_andNot a b).symm) rfl rfl, rfl⟩
    · by_cases hn : b < 0
      · have HD : Hid (binN 9 a b = 0 ∧ binC 9 b = 4) := Lib.hid (by unfold binN binC; simp [hn])
        go_enter Try.func10, Try.ntmps10
        go_wp2
        go_ret3
        exact ⟨ret3 HD.out.1.symm HD.out.2.symm rfl, rfl⟩
      · have HD : Hid (binN 9 a b = wrap64 (a * 2 ^ min b.toNat 64) ∧ binC 9 b = 0) := Lib.hid (by unfold binN binC; simp [hn])
        go_enter Try.func10, Try.ntmps10
        go_wp2_with (go_at_call 22; refine (left_any a b _ _ ha rfl).mono ?_; rintro e w' ⟨rfl, rfl⟩)
        go_ret3
        exact ⟨ret3 HD.out.1.symm HD.out.2.symm rfl, rfl⟩
    · by_cases hn : b < 0
      · have HD : Hid (binN 10 a b = 0 ∧ binC 10 b = 4) := Lib.hid (by unfold binN binC; simp [hn])
        go_enter Try.func10, Try.ntmps10
        go_wp2
        go_ret3
        exact ⟨ret3 HD.out.1.symm HD.out.2.symm rfl, rfl⟩
      · have HD : Hid (binN 10 a b = a / 2 ^ min b.toNat 64 ∧ binC 10 b = 0) := Lib.hid (by unfold binN binC; simp [hn])
        go_enter Try.func10, Try.ntmps10
        go_wp2_with (go_at_call 23; refine (right_any a b _ _ ha rfl).mono ?_; rintro e w' ⟨rfl, rfl⟩)
        go_ret3
        exact ⟨ret3 HD.out.1.symm HD.out.2.symm rfl, rfl⟩
    · by_cases h1 : a < b
      · have HD : Hid (binN 11 a b = 1) := Lib.hid (by unfold binN; simp [h1])
        go_enter Try.func10, Try.ntmps10
        go_wp2_with (go_at_call 24; refine (truth_any _ _).mono ?_; rintro e w' ⟨rfl, rfl⟩)
        go_ret3
        exact ⟨ret3 HD.out.symm rfl rfl, rfl⟩
      · have HD : Hid (binN 11 a b = 0) := Lib.hid (by unfold binN; simp [h1])
        have h2 : decide (a < b) = false := by simpa using h1
        go_enter Try.func10, Try.ntmps10
        go_wp2_with (go_at_call 24; refine (truth_any _ _).mono ?_; rintro e w' ⟨rfl, rfl⟩)
        go_ret3
        exact ⟨ret3 HD.out.symm rfl rfl, rfl⟩
    · by_cases h1 : a < b
      · have HD : Hid (binN 12 a b = 1) := Lib.hid (by unfold binN; simp; omega)
        go_enter Try.func10, Try.ntmps10
        go_wp2_with (go_at_call 24; refine (truth_any _ _).mono ?_; rintro e w' ⟨rfl, rfl⟩)
        go_ret3
        exact ⟨ret3 HD.out.symm rfl rfl, rfl⟩
      · have h2 : decide (a < b) = false := by simpa using h1
        by_cases h3 : a = b
        · have HD : Hid (binN 12 a b = 1) := Lib.hid (by unfold binN; simp; omega)
          subst h3
          go_enter Try.func10, Try.ntmps10
          go_wp2_with (go_at_call 24; refine (truth_any _ _).mono ?_; rintro e w' ⟨rfl, rfl⟩)
          go_ret3
          exact ⟨ret3 HD.out.symm rfl rfl, rfl⟩
        · have HD : Hid (binN 12 a b = 0) := Lib.hid (by unfold binN; simp; omega)
          have h4 : (a == b) = false := by simpa using h3
          go_enter Try.func10, Try.ntmps10
          go_wp2_with (go_at_call 24; refine (truth_any _ _).mono ?_; rintro e w' ⟨rfl, rfl⟩)
          go_ret3
          exact ⟨ret3 HD.out.symm rfl rfl, rfl⟩
    · by_cases h3 : a = b
      · have HD : Hid (binN 13 a b = 1) := Lib.hid (by unfold binN; simp [h3])
        subst h3
        go_enter Try.func10, Try.ntmps10
        go_wp2_with (go_at_call 24; refine (truth_any _ _).mono ?_; rintro e w' ⟨rfl, rfl⟩)
        go_ret3
        exact ⟨ret3 HD.out.symm rfl rfl, rfl⟩
      · have HD : Hid (binN 13 a b = 0) := Lib.hid (by unfold binN; simp [h3])
        have h4 : (a == b) = false := by simpa using h3
        go_enter Try.func10, Try.ntmps10
        go_wp2_with (go_at_call 24; refine (truth_any _ _).mono ?_; rintro e w' ⟨rfl, rfl⟩)
        go_ret3
        exact ⟨ret3 HD.out.symm rfl rfl, rfl⟩
  · have HD : Hid (binN op a b = 0 ∧ binC op b = 0 ∧ binE op = 30) := by
      unfold binN binC binE
      rw [if_neg (by omega), if_neg (by omega), if_neg (by omega), if_neg (by omega), if_neg (by omega), if_neg (by omega), if_neg (by omega), if_neg (by omega), if_neg (by omega), if_neg (by omega), if_neg (by omega), if_neg (by omega), if_neg (by omega), if_neg (by omega), if_neg (by omega), if_neg (by omega), if_neg hop]
      exact ⟨rfl, rfl, rfl⟩
    have n0 : (op == 0) = false := by simp; omega
    have n1 : (op == 1) = false := by simp; omega
    have n2 : (op == 2) = false := by simp; omega
    have n3 : (op == 3) = false := by simp; omega
    have n4 : (op == 4) = false := by simp; omega
    have n5 : (op == 5) = false := by simp; omega
    have n6 : (op == 6) = false := by simp; omega
    have n7 : (op == 7) = false := by simp; omega
    have n8 : (op == 8) = false := by simp; omega
    have n9 : (op == 9) = false := by simp; omega
    have n10 : (op == 10) = false := by simp; omega
    have n11 : (op == 11) = false := by simp; omega
    have n12 : (op == 12) = false := by simp; omega
    have n13 : (op == 13) = false := by simp; omega
    go_enter Try.func10, Try.ntmps10
    go_wp2
    go_ret3
    exact ⟨ret3 HD.out.1.symm HD.out.2.1.symm HD.out.2.2.symm, rfl⟩

end Go.Proofs.Ytoljghgmpilecaa
