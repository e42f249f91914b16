/-
  What the small functions of vary and of the document's answers return (Zig, Zag, Width, mark, told): just the plain mathematics' numbers; the world stays. No conditions but that a number fits its type.
-/
import Derived.Test.YtpkcjokkadfhcaaDoorProg
import Derived.Test.YtpkcjokkadfhcaaDoorVPure
import Derived.Test.YtpkcjokkadfhcaaDoorShelf
import Derived.WalkKit
import Derived.Lib.Hide
import Derived.WalkSpells
import Derived.WalkLawsBesides
namespace Go.Proofs.YtpkcjokkadfhcaaDoor.V
open Go.RowKit

theorem ret_int {k : IntKind} {a b : Int} (h : a = b) : Ending.returned (.int k a) = .returned (.int k b) := by rw [h]

theorem zig_any (n : Int) (w : World) (h1 : -9223372036854775808 ≤ n) (h2 : n ≤ 9223372036854775807) :
    Calls Tryd.prog 53 #[.int .i64 n] w fun e w' => e = .returned (.int .u64 (zig n)) ∧ w = w' := by
  go_enter Tryd.func53, Tryd.ntmps53
  go_wp2
  go_ret
  exact ⟨ret_int (zig_form n h1 h2), rfl⟩

/-- The part of n that a width's digits do not hold. -/
theorem shr_zero (n k : Nat) : ((n : Int) / 2 ^ (7 * k) != 0) = false → n < 2 ^ (7 * k) := by
  intro h
  rw [bne_eq_false_iff_eq] at h
  have h' : n / 2 ^ (7 * k) = 0 := by exact_mod_cast h
  exact (Nat.div_eq_zero_iff_lt (Nat.two_pow_pos _)).1 h'
theorem shr_some (n k : Nat) : ((n : Int) / 2 ^ (7 * k) != 0) = true → 2 ^ (7 * k) ≤ n := by
  intro h
  rw [bne_iff_ne] at h
  have h' : n / 2 ^ (7 * k) ≠ 0 := by exact_mod_cast h
  rcases Nat.lt_or_ge n (2 ^ (7 * k)) with hl | hl
  · exact absurd (Nat.div_eq_of_lt hl) h'
  · exact hl

set_option maxHeartbeats 400000 in
theorem width_any (n : Nat) (w : World) :
    Calls Tryd.prog 50 #[.int .u64 n] w fun e w' => e = .returned (.int .i64 (wd n)) ∧ w = w' := by
  go_enter Tryd.func50, Tryd.ntmps50
  go_wp2
  go_loop [3] (fun i => ∃ k : Nat, 1 ≤ k ∧ k ≤ 9 ∧ (k = 1 ∨ 2 ^ (7 * (k - 1)) ≤ n) ∧ i = .int .i64 k) (fun i => 9 - (intOf i).toNat)
  case atStart => exact ⟨1, by omega, by omega, .inl rfl, rfl⟩
  case round =>
    obtain ⟨k, hk1, hk2, hlo, rfl⟩ := hrel
    have HLO := Lib.hid hlo
    clear hlo
    by_cases hlt : k < 9
    · go_wp2
      · have ht : ((n : Int) / 2 ^ (7 * k) != 0) = true := by assumption
        go_round
        case rel => exact ⟨k + 1, by omega, by omega, .inr (shr_some n k ht), by go_num⟩
        case measure => simp [intOf]; omega
      · have ht : ((n : Int) / 2 ^ (7 * k) != 0) = false := by assumption
        go_ret
        exact ⟨ret_int (by rw [wd_eq n k hk1 hk2 HLO.out (.inr (shr_zero n k ht))]), rfl⟩
    · go_wp2
      go_ret
      exact ⟨ret_int (by rw [wd_eq n k hk1 hk2 HLO.out (.inl (by omega))]), rfl⟩

theorem pow128 (k : Nat) : (128 : Nat) ^ k = 2 ^ (7 * k) := by rw [Nat.pow_mul]

/-- The bits of a first byte that tell a width. -/
def mk (w : Nat) : Nat := 65280 / 2 ^ (w - 1) % 256

theorem mk_form (k : Nat) (h1 : 1 ≤ k) (h2 : k ≤ 9) : (65280 : Int) / 2 ^ (k - 1) % 256 = (mk k : Int) := by
  have hc : k = 1 ∨ k = 2 ∨ k = 3 ∨ k = 4 ∨ k = 5 ∨ k = 6 ∨ k = 7 ∨ k = 8 ∨ k = 9 := by omega
  rcases hc with rfl | rfl | rfl | rfl | rfl | rfl | rfl | rfl | rfl <;> decide +kernel

theorem mark_any (k : Nat) (w : World) (h1 : 1 ≤ k) (h2 : k ≤ 9) :
    Calls Tryd.prog 52 #[.int .i64 k] w fun e w' => e = .returned (.int .u8 (mk k)) ∧ w = w' := by
  go_enter Tryd.func52, Tryd.ntmps52
  go_wp2
  go_ret
  exact ⟨ret_int (mk_form k h1 h2), rfl⟩

end Go.Proofs.YtpkcjokkadfhcaaDoor.V
