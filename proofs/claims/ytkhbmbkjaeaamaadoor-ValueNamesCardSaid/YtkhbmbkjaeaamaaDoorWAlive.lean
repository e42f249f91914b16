/-
  The law's own alive: the chapter's examples hold; of. Conditions: the listed variables hold what their initialisers lay.
-/
import Derived.Test.YtkhbmbkjaeaamaaDoorWTypes2
import Derived.Test.YtkhbmbkjaeaamaaDoorWShow2
import Derived.Deep.RegionHeld
namespace Go.Proofs.YtkhbmbkjaeaamaaDoor
open Go.RowKit

theorem show_a : showL 1 (-5) = [45, 53] := by decide +kernel
theorem show_b : showL 2 0 = [110, 105, 108] := by decide +kernel
theorem show_c : showL 2 7 = [35, 55] := by decide +kernel
theorem show_d : showL 3 1 = [64, 48] := by decide +kernel
theorem show_e : showL 4 99 = [38] := by decide +kernel
theorem show_f : showL 3 3 = [64, 50] := by decide +kernel
theorem show_at (t n : Int) (s : List UInt8) (w : World) (hs : showL t n = s) (hn : I64 n) (h : Laid w) :
    Calls Tryd.prog 21 #[.agg #[.int .i64 t, .int .i64 n]] w fun e w' => e = .returned (.string (str s)) ∧ Keep NoB w w' := by
  subst hs; exact show_any t n w hn h
theorem read_at (t : Int) (S : ByteArray) (T N E : Int) (w : World) (hl : S.size ≤ 281474976710656) (h : Laid w) (e1 : rT t S.data.toList = T) (e2 : rN t S.data.toList = N) (e3 : rE t S.data.toList = E) :
    Calls Tryd.prog 19 #[.int .i64 t, .string S] w fun e w' => e = .returned (.tuple #[.agg #[.int .i64 T, .int .i64 N], .int .i64 E]) ∧ Keep NoB w w' := by
  subst e1 e2 e3; exact read_any t S _ w rfl hl h
theorem read_a : rT 1 [48, 48, 55] = 0 ∧ rN 1 [48, 48, 55] = 0 ∧ rE 1 [48, 48, 55] = 21 := by decide +kernel
theorem read_b : rT 3 [64, 50] = 3 ∧ rN 3 [64, 50] = 3 ∧ rE 3 [64, 50] = 0 := by decide +kernel
theorem types_a : tN [73, 82, 88] = 0 ∧ tL [73, 82, 88] = [] ∧ tE [73, 82, 88] = 20 := by decide +kernel
theorem text_a : txt [1, 2, 4] = [73, 82, 80] := by decide +kernel

theorem of_of (t n : Int) (w : World) :
    Calls Tryd.prog 23 #[.int .i64 t, .int .i64 n] w fun e w' => e = .returned (.agg #[.int .i64 t, .int .i64 n]) ∧ Keep NoB w w' := by
  go_enter Tryd.func23, Tryd.ntmps23
  go_wp2
  exact bodyPost_ret (v := .agg #[.int .i64 t, .int .i64 n]) (by simp [results, Tryd.results23, go_sem]) rfl ⟨rfl, (Keep.refl NoB w).alloc _⟩

end Go.Proofs.YtkhbmbkjaeaamaaDoor
