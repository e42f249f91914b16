/-
  AluMakes' and AluAll's walks. Conditions: what Binary and Unary answer (BinC, UnC).
-/
import Derived.Test.YtoljghgmpilecaaALawsA
import Derived.Test.YtoljghgmpilecaaARefF
namespace Go.Proofs.Ytoljghgmpilecaa
open Go.RowKit

set_option maxRecDepth 100000 in
set_option maxHeartbeats 4000000 in
theorem makes_walk (B : Hid BinC) (U1 : Hid UnC) (op a b : Int) (w : World) (ho : I64 op) (ha : I64 a) (hb : I64 b) :
    Calls Try.prog 3 #[.int .i64 op, .int .i64 a, .int .i64 b] w fun e w' => e = .returned (.bool true) ∧ Keep NoB w w' := by
  have HB := Lib.hid (fun W => B.out op a b W ho ha hb)
  have HB2 := Lib.hid (fun W => rbinary_any op a b W ha hb)
  have HU := Lib.hid (fun W => U1.out op a W ho ha)
  have HU2 := Lib.hid (fun W => runary_any op a W ha)
  clear ho ha hb
  generalize binN op a b = N at HB HB2
  generalize binC op b = C at HB HB2
  generalize binE op = E at HB HB2
  generalize unN op a = N2 at HU HU2
  generalize unE op = E2 at HU HU2
  go_enter Try.func3, Try.ntmps3
  go_wp2_with fail
  refine (HB.out _).mono ?_
  rintro e w1 ⟨rfl, k1⟩
  go_wp2_with fail
  refine (HB2.out _).mono ?_
  rintro e w' ⟨rfl, rfl⟩
  go_wp2_with fail
  refine (HU.out _).mono ?_
  rintro e w2 ⟨rfl, k2⟩
  go_wp2_with fail
  refine (HU2.out _).mono ?_
  rintro e w' ⟨rfl, rfl⟩
  go_wp2
  go_ret
  exact ⟨rfl, keepN k1 k2⟩

set_option maxRecDepth 100000 in
set_option maxHeartbeats 4000000 in
theorem all_walk (B : Hid BinC) (U1 : Hid UnC) (a b : Int) (w : World) (ha : I64 a) (hb : I64 b) :
    Calls Try.prog 4 #[.int .i64 a, .int .i64 b] w fun e w' => e = .returned (.bool true) ∧ Keep NoB w w' := by
  have HM := Lib.hid (fun (k : Nat) (hk : k < 14) W => makes_walk B U1 (k : Int) a b W (by unfold I64; omega) ha hb)
  have HB := Lib.hid (fun W => B.out 0 a b W (by unfold I64; omega) ha hb)
  have e0 : binN 0 a b = wrap64 (a + b) := rfl
  have e1 : binC 0 b = 0 := by unfold binC; simp
  have e2 : binE 0 = 0 := rfl
  rw [e0, e1, e2] at HB
  clear e0 e1 e2 ha hb
  go_enter Try.func4, Try.ntmps4
  go_wp2
  go_loopw [5] (fun i wr => ∃ k : Nat, k ≤ 14 ∧ i = .int .i64 (k : Int) ∧ Keep NoB w wr) (fun i _ => 14 - (intOf i).toNat)
  case atStart => exact ⟨0, by omega, rfl, Keep.refl _ _⟩
  case round =>
    obtain ⟨k, hk, rfl, hK⟩ := hrel
    by_cases hlt : k < 14
    · have HM2 := Lib.hid (HM.out k hlt)
      go_wp2_with (go_at_call 3; refine (HM2.out _).mono ?_; rintro e w1 ⟨rfl, k1⟩)
      go_roundw
      case rel => exact ⟨k + 1, by omega, by go_num, keepN hK k1⟩
      case measure => simp [intOf]; omega
    · obtain rfl : k = 14 := by omega
      go_wp2_with fail
      refine (HB.out _).mono ?_
      rintro e w1 ⟨rfl, k1⟩
      go_wp2
      go_ret
      exact ⟨rfl, keepN hK k1⟩

end Go.Proofs.Ytoljghgmpilecaa
