/-
  The laws' own small functions: two, wrong, one, and the chapter's examples. Conditions: what Binary and Unary answer (BinC, UnC).
-/
import Derived.Test.YtoljghgmpilecaaDoorKMem
import Derived.Test.YtoljghgmpilecaaDoorAPure3
import Derived.Lib.Hide
import Derived.WalkLawsBesides
import Derived.Deep.RegionWith
namespace Go.Proofs.YtoljghgmpilecaaDoor
open Go.RowKit

/-- What the project's Binary answers, and that all that lay stays. -/
def BinC : Prop := ∀ (op a b : Int) (W : World), I64 op → I64 a → I64 b →
  Calls Tryd.prog 18 #[.int .i64 op, .int .i64 a, .int .i64 b] W fun e w' => e = .returned (.tuple #[.int .i64 (binN op a b), .int .i64 (binC op b), .int .i64 (binE op)]) ∧ Keep NoB W w'
/-- What the project's Unary answers. -/
def UnC : Prop := ∀ (op a : Int) (W : World), I64 op → I64 a →
  Calls Tryd.prog 19 #[.int .i64 op, .int .i64 a] W fun e w' => e = .returned (.tuple #[.int .i64 (unN op a), .int .i64 (unE op)]) ∧ Keep NoB W w'

def twoN (op a b : Int) : Int := if binC op b = 0 ∧ binE op = 0 then binN op a b else 123456789
def oneN (op a : Int) : Int := if unE op = 0 then unN op a else 123456789
def wrongB (op a b code : Int) : Bool := decide (binN op a b = 0 ∧ binC op b = code ∧ binE op = 0)

set_option maxRecDepth 100000 in
set_option maxHeartbeats 4000000 in
theorem two_any (B : Hid BinC) (op a b : Int) (w : World) (ho : I64 op) (ha : I64 a) (hb : I64 b) :
    Calls Tryd.prog 15 #[.int .i64 op, .int .i64 a, .int .i64 b] w fun e w' => e = .returned (.int .i64 (twoN op a b)) ∧ Keep NoB w w' := by
  have HB := Lib.hid (fun W => B.out op a b W ho ha hb)
  clear ho ha hb
  have HD : Hid (twoN op a b = if binC op b = 0 ∧ binE op = 0 then binN op a b else 123456789) := rfl
  generalize binN op a b = N at HB HD
  generalize binC op b = C at HB HD
  generalize binE op = E at HB HD
  by_cases hc : C = 0
  · by_cases he : E = 0
    · subst hc he
      go_enter Tryd.func15, Tryd.ntmps15
      go_wp2_with fail
      refine (HB.out _).mono ?_
      rintro e w1 ⟨rfl, k1⟩
      go_wp2
      go_ret
      exact ⟨ret_int (by rw [HD.out]; simp), k1⟩
    · have he' : (E != 0) = true := by simpa using he
      subst hc
      go_enter Tryd.func15, Tryd.ntmps15
      go_wp2_with fail
      refine (HB.out _).mono ?_
      rintro e w1 ⟨rfl, k1⟩
      go_wp2
      go_ret
      exact ⟨ret_int (by rw [HD.out, if_neg (fun h => he h.2)]), k1⟩
  · have hc' : (C != 0) = true := by simpa using hc
    go_enter Tryd.func15, Tryd.ntmps15
    go_wp2_with fail
    refine (HB.out _).mono ?_
    rintro e w1 ⟨rfl, k1⟩
    go_wp2
    go_ret
    exact ⟨ret_int (by rw [HD.out, if_neg (fun h => hc h.1)]), k1⟩

set_option maxRecDepth 100000 in
set_option maxHeartbeats 4000000 in
theorem one_any (B : Hid UnC) (op a : Int) (w : World) (ho : I64 op) (ha : I64 a) :
    Calls Tryd.prog 17 #[.int .i64 op, .int .i64 a] w fun e w' => e = .returned (.int .i64 (oneN op a)) ∧ Keep NoB w w' := by
  have HB := Lib.hid (fun W => B.out op a W ho ha)
  clear ho ha
  have HD : Hid (oneN op a = if unE op = 0 then unN op a else 123456789) := rfl
  generalize unN op a = N at HB HD
  generalize unE op = E at HB HD
  by_cases he : E = 0
  · subst he
    go_enter Tryd.func17, Tryd.ntmps17
    go_wp2_with fail
    refine (HB.out _).mono ?_
    rintro e w1 ⟨rfl, k1⟩
    go_wp2
    go_ret
    exact ⟨ret_int (by rw [HD.out]; simp), k1⟩
  · have he' : (E != 0) = true := by simpa using he
    go_enter Tryd.func17, Tryd.ntmps17
    go_wp2_with fail
    refine (HB.out _).mono ?_
    rintro e w1 ⟨rfl, k1⟩
    go_wp2
    go_ret
    exact ⟨ret_int (by rw [HD.out, if_neg he]), k1⟩

set_option maxRecDepth 100000 in
set_option maxHeartbeats 4000000 in
theorem wrong_true (B : Hid BinC) (op a b code : Int) (w : World) (ho : I64 op) (ha : I64 a) (hb : I64 b) (h : wrongB op a b code = true) :
    Calls Tryd.prog 16 #[.int .i64 op, .int .i64 a, .int .i64 b, .int .i64 code] w fun e w' => e = .returned (.bool true) ∧ Keep NoB w w' := by
  have HB := Lib.hid (fun W => B.out op a b W ho ha hb)
  unfold wrongB at h
  obtain ⟨h1, h2, h3⟩ := of_decide_eq_true h
  rw [h1, h2, h3] at HB
  clear ho ha hb h h1 h2 h3
  go_enter Tryd.func16, Tryd.ntmps16
  go_wp2_with fail
  refine (HB.out _).mono ?_
  rintro e w1 ⟨rfl, k1⟩
  go_wp2
  go_ret
  exact ⟨rfl, k1⟩

theorem al1 : twoN 3 (-7) 2 = -3 := by decide +kernel
theorem al2 : twoN 4 (-7) 2 = -1 := by decide +kernel
theorem al3 : wrongB 3 1 0 2 = true := by decide +kernel
theorem al4 : twoN 10 (-5) 1 = -3 := by decide +kernel
theorem al5 : twoN 9 1 64 = 0 := by decide +kernel
theorem al6 : wrongB 9 1 (-1) 4 = true := by decide +kernel
theorem al7 : oneN 3 200 = -56 := by decide +kernel
theorem al8 : oneN 7 (-1) = 65535 := by decide +kernel

set_option maxRecDepth 100000 in
set_option maxHeartbeats 4000000 in
theorem alive_any (B : Hid BinC) (U1 : Hid UnC) (w : World) :
    Calls Tryd.prog 20 #[] w fun e w' => e = .returned (.bool true) ∧ Keep NoB w w' := by
  have g := Keep.refl NoB w
  go_enter Tryd.func20, Tryd.ntmps20
  go_wp2_with (first
    | (go_at_call 15; refine (two_any B _ _ _ _ (by unfold I64; omega) (by unfold I64; omega) (by unfold I64; omega)).mono ?_; (first | rw [al1] | rw [al2] | rw [al4] | rw [al5]); rintro e v ⟨rfl, g'⟩; replace g := keepN g g'; clear g')
    | (go_at_call 16; refine (wrong_true B _ _ _ _ _ (by unfold I64; omega) (by unfold I64; omega) (by unfold I64; omega) (by first | exact al3 | exact al6)).mono ?_; rintro e v ⟨rfl, g'⟩; replace g := keepN g g'; clear g')
    | (go_at_call 17; refine (one_any U1 _ _ _ (by unfold I64; omega) (by unfold I64; omega)).mono ?_; (first | rw [al7] | rw [al8]); rintro e v ⟨rfl, g'⟩; replace g := keepN g g'; clear g'))
  go_ret
  exact ⟨rfl, g⟩

end Go.Proofs.YtoljghgmpilecaaDoor
