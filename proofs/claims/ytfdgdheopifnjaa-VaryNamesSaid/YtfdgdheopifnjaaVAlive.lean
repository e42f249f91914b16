/-
  The law's own alive: the chapter's first examples hold. No conditions.
-/
import Derived.Test.YtfdgdheopifnjaaVTape2
namespace Go.Proofs.Ytfdgdheopifnjaa
open Go.RowKit

theorem number_at (N : Int) (n : Nat) (l : List UInt8) (w : World) (hN : N = n) (hl : encL n = l) :
    Calls Try.prog 37 #[.int .u64 N] w fun e w' => e = .returned (.string (str l)) ∧ Keep NoB w w' := by
  subst hN hl; exact number_any n w
theorem enc_0 : encL 0 = [0] := by decide +kernel
theorem enc_127 : encL 127 = [127] := by decide +kernel
theorem enc_128 : encL 128 = [128, 128] := by decide +kernel
theorem enc_300 : encL 300 = [129, 44] := by decide +kernel
theorem enc_16384 : encL 16384 = [192, 64, 0] := by decide +kernel

theorem keepN {w w1 w2 : World} (h : Keep NoB w w1) (h' : Keep NoB w1 w2) : Keep NoB w w2 := h.trans h' (fun _ hf _ => hf.elim)

set_option maxHeartbeats 1000000 in
theorem alive_any (w : World) :
    Calls Try.prog 39 #[] w fun e w' => e = .returned (.bool true) ∧ Keep NoB w w' := by
  go_enter Try.func39, Try.ntmps39
  go_wp2_with fail
  refine (number_at 0 0 _ _ rfl enc_0).mono ?_
  rintro e w1 ⟨rfl, hk1⟩
  go_wp2_with fail
  refine (number_at 127 127 _ _ rfl enc_127).mono ?_
  rintro e w2 ⟨rfl, hk2⟩
  go_wp2_with fail
  refine (number_at 128 128 _ _ rfl enc_128).mono ?_
  rintro e w3 ⟨rfl, hk3⟩
  go_wp2_with fail
  refine (number_at 300 300 _ _ rfl enc_300).mono ?_
  rintro e w4 ⟨rfl, hk4⟩
  go_wp2_with fail
  refine (number_at 16384 16384 _ _ rfl enc_16384).mono ?_
  rintro e w5 ⟨rfl, hk5⟩
  go_wp2_with fail
  refine (zig_any (-1) _ (by omega) (by omega)).mono ?_
  rintro e w6 ⟨rfl, rfl⟩
  have hz : zig (-1) = 1 := by decide
  rw [hz]
  go_wp2
  go_ret
  exact ⟨rfl, keepN (keepN (keepN (keepN hk1 hk2) hk3) hk4) hk5⟩

end Go.Proofs.Ytfdgdheopifnjaa
