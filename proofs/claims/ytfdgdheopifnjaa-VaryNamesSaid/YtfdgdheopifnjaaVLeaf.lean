/-
  What the small functions of vary and of the document's answers return (Zig, Zag, Width, mark, told): just the plain mathematics' numbers; the world stays. No conditions but that a number fits its type.
-/
import Derived.Test.YtfdgdheopifnjaaProg
import Derived.Test.YtfdgdheopifnjaaVPure
import Derived.Test.YtfdgdheopifnjaaVShelf
import Derived.WalkKit
import Derived.Lib.Hide
import Derived.WalkSpells
import Derived.WalkLawsBesides
namespace Go.Proofs.Ytfdgdheopifnjaa
open Go.RowKit

theorem ret_int {k : IntKind} {a b : Int} (h : a = b) : Ending.returned (.int k a) = .returned (.int k b) := by rw [h]

theorem zig_any (n : Int) (w : World) (h1 : -9223372036854775808 ≤ n) (h2 : n ≤ 9223372036854775807) :
    Calls Try.prog 14 #[.int .i64 n] w fun e w' => e = .returned (.int .u64 (zig n)) ∧ w = w' := by
  go_enter Try.func14, Try.ntmps14
  go_wp2
  go_ret
  exact ⟨ret_int (zig_form n h1 h2), rfl⟩

theorem zag_any (n : Nat) (w : World) (h : n < 18446744073709551616) :
    Calls Try.prog 16 #[.int .u64 n] w fun e w' => e = .returned (.int .i64 (zag n)) ∧ w = w' := by
  go_enter Try.func16, Try.ntmps16
  go_wp2
  go_ret
  exact ⟨ret_int (zag_form n h), rfl⟩

theorem rzig_any (n : Int) (w : World) (h1 : -9223372036854775808 ≤ n) (h2 : n ≤ 9223372036854775807) :
    Calls Try.prog 15 #[.int .i64 n] w fun e w' => e = .returned (.int .u64 (zig n)) ∧ w = w' := by
  go_enter Try.func15, Try.ntmps15
  go_wp2
  · go_ret
    exact ⟨ret_int (by unfold zig; split <;> omega), rfl⟩
  · go_ret
    exact ⟨ret_int (by unfold zig; split <;> omega), rfl⟩

theorem rzag_any (n : Nat) (w : World) (h : n < 18446744073709551616) :
    Calls Try.prog 17 #[.int .u64 n] w fun e w' => e = .returned (.int .i64 (zag n)) ∧ w = w' := by
  go_enter Try.func17, Try.ntmps17
  go_wp2
  · have hp : ((n : Int) % 2 == 0) = true := by assumption
    rw [beq_iff_eq] at hp
    go_ret
    exact ⟨ret_int (by unfold zag; rw [if_pos (by omega)]; omega), rfl⟩
  · have hp : ((n : Int) % 2 == 0) = false := by assumption
    rw [beq_eq_false_iff_ne] at hp
    go_ret
    exact ⟨ret_int (by unfold zag; rw [if_neg (by omega)]; omega), rfl⟩

/-- The part of n that a width's digits do not hold. -/
theorem shr_zero (n k : Nat) : ((n : Int) / 2 ^ (7 * k) != 0) = false → n < 2 ^ (7 * k) := by
  intro h
  rw [bne_eq_false_iff_eq] at h
  have h' : n / 2 ^ (7 * k) = 0 := by exact_mod_cast h
  exact (Nat.div_eq_zero_iff_lt (Nat.two_pow_pos _)).1 h'
theorem shr_some (n k : Nat) : ((n : Int) / 2 ^ (7 * k) != 0) = true → 2 ^ (7 * k) ≤ n := by
  intro h
  rw [bne_iff_ne] at h
  have h' : n / 2 ^ (7 * k) ≠ 0 := by exact_mod_cast h
  rcases Nat.lt_or_ge n (2 ^ (7 * k)) with hl | hl
  · exact absurd (Nat.div_eq_of_lt hl) h'
  · exact hl

set_option maxHeartbeats 400000 in
theorem width_any (n : Nat) (w : World) :
    Calls Try.prog 12 #[.int .u64 n] w fun e w' => e = .returned (.int .i64 (wd n)) ∧ w = w' := by
  go_enter Try.func12, Try.ntmps12
  go_wp2
  go_loop [3] (fun i => ∃ k : Nat, 1 ≤ k ∧ k ≤ 9 ∧ (k = 1 ∨ 2 ^ (7 * (k - 1)) ≤ n) ∧ i = .int .i64 k) (fun i => 9 - (intOf i).toNat)
  case atStart => exact ⟨1, by omega, by omega, .inl rfl, rfl⟩
  case round =>
    obtain ⟨k, hk1, hk2, hlo, rfl⟩ := hrel
    have HLO := Lib.hid hlo
    clear hlo
    by_cases hlt : k < 9
    · go_wp2
      · have ht : ((n : Int) / 2 ^ (7 * k) != 0) = true := by assumption
        go_round
        case rel => exact ⟨k + 1, by omega, by omega, .inr (shr_some n k ht), by go_num⟩
        case measure => simp [intOf]; omega
      · have ht : ((n : Int) / 2 ^ (7 * k) != 0) = false := by assumption
        go_ret
        exact ⟨ret_int (by rw [wd_eq n k hk1 hk2 HLO.out (.inr (shr_zero n k ht))]), rfl⟩
    · go_wp2
      go_ret
      exact ⟨ret_int (by rw [wd_eq n k hk1 hk2 HLO.out (.inl (by omega))]), rfl⟩

theorem pow128 (k : Nat) : (128 : Nat) ^ k = 2 ^ (7 * k) := by rw [Nat.pow_mul]

set_option maxHeartbeats 400000 in
theorem rwidth_any (n : Nat) (w : World) :
    Calls Try.prog 13 #[.int .u64 n] w fun e w' => e = .returned (.int .i64 (wd n)) ∧ w = w' := by
  go_enter Try.func13, Try.ntmps13
  go_wp2
  go_loop [3, 4] (fun i l => ∃ k L : Nat, 1 ≤ k ∧ k ≤ 8 ∧ L ≤ 72057594037927936 ∧ (k < 8 → L ≤ 562949953421312) ∧ Hid (L = 2 ^ (7 * k)) ∧ (k = 1 ∨ 2 ^ (7 * (k - 1)) ≤ n) ∧ i = .int .i64 k ∧ l = .int .u64 L) (fun i _ => 9 - (intOf i).toNat)
  case atStart => exact ⟨1, 128, by omega, by omega, by omega, fun _ => by omega, rfl, .inl rfl, rfl, rfl⟩
  case round =>
    obtain ⟨k, L, hk1, hk2, hL, hL8, HL, hlo, rfl, rfl⟩ := hrel
    have HLO := Lib.hid hlo
    clear hlo
    by_cases hlt : k < 8
    · have hL7 := hL8 hlt
      clear hL8
      by_cases hn : L ≤ n
      · go_wp2
        go_round
        case rel =>
          refine ⟨k + 1, L * 128, by omega, by omega, by omega, fun h => ?_, ?_, .inr (by show 2 ^ (7 * k) ≤ n; rw [← HL.out]; exact hn), by go_num, by go_num⟩
          · have h6 : L ≤ 4398046511104 := by
              have := HL.out
              have hc : k = 1 ∨ k = 2 ∨ k = 3 ∨ k = 4 ∨ k = 5 ∨ k = 6 := by omega
              rcases hc with rfl | rfl | rfl | rfl | rfl | rfl <;> omega
            omega
          · show L * 128 = 2 ^ (7 * (k + 1))
            rw [HL.out, Nat.mul_add, Nat.pow_add]
        case measure => simp [intOf]; omega
      · go_wp2
        go_ret
        exact ⟨ret_int (by rw [wd_eq n k hk1 (by omega) HLO.out (.inr (by have := HL.out; omega))]), rfl⟩
    · obtain rfl : k = 8 := by omega
      clear hL8
      by_cases hn : L ≤ n
      · go_wp2
        go_ret
        exact ⟨ret_int (by rw [wd_eq n 9 (by omega) (by omega) (.inr (by have := HL.out; omega)) (.inl rfl)]; rfl), rfl⟩
      · go_wp2
        go_ret
        exact ⟨ret_int (by rw [wd_eq n 8 hk1 (by omega) HLO.out (.inr (by have := HL.out; omega))]; rfl), rfl⟩

/-- The bits of a first byte that tell a width. -/
def mk (w : Nat) : Nat := 65280 / 2 ^ (w - 1) % 256

theorem mk_form (k : Nat) (h1 : 1 ≤ k) (h2 : k ≤ 9) : (65280 : Int) / 2 ^ (k - 1) % 256 = (mk k : Int) := by
  have hc : k = 1 ∨ k = 2 ∨ k = 3 ∨ k = 4 ∨ k = 5 ∨ k = 6 ∨ k = 7 ∨ k = 8 ∨ k = 9 := by omega
  rcases hc with rfl | rfl | rfl | rfl | rfl | rfl | rfl | rfl | rfl <;> decide +kernel

theorem mark_any (k : Nat) (w : World) (h1 : 1 ≤ k) (h2 : k ≤ 9) :
    Calls Try.prog 56 #[.int .i64 k] w fun e w' => e = .returned (.int .u8 (mk k)) ∧ w = w' := by
  go_enter Try.func56, Try.ntmps56
  go_wp2
  go_ret
  exact ⟨ret_int (mk_form k h1 h2), rfl⟩

end Go.Proofs.Ytfdgdheopifnjaa
