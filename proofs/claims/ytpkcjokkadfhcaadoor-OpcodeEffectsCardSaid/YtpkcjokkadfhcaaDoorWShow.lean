/-
  What Show answers. Conditions: the variables that it reads hold what their initialisers lay; the value's number fits an int64.
-/
import Derived.Test.YtpkcjokkadfhcaaDoorWLaid
import Derived.Lib.ItoaLen
import Derived.Lib.AppendIntMem
import Derived.IntWalk
namespace Go.Proofs.YtpkcjokkadfhcaaDoor.W
open Go.RowKit

theorem str_app (a b : List UInt8) : str a ++ str b = str (a ++ b) := by
  apply ByteArray.ext
  simp [ByteArray.data_append]

theorem format_any (n : Int) (w : World) (h0 : -9223372036854775808 ≤ n) (h1 : n ≤ 9223372036854775807) (h : Laid w) :
    Calls Tryd.prog 43 #[.int .i64 n, .int .i64 10] w fun e w' => ∃ d, e = .returned (.string d) ∧ d.size ≤ 21 ∧ Hid (d = str (Lib.itoa n)) ∧ Keep NoB w w' := by
  refine (Tryd.strconv_FormatInt_10 n h0 h1 w h.pow).mono ?_
  rintro e w' ⟨rfl, k, os, rfl⟩
  exact ⟨_, rfl, by have := Lib.itoa_length_le n h0 h1; rw [size_of (s := Lib.itoa n) (by simp)]; exact this, rfl, Keep.of_below (Go.Lib.below_grow _ w (Nat.le_refl _) k os)⟩

theorem sgn_len (t : Int) : (sgn t).length ≤ 1 := by unfold sgn; split <;> (try split) <;> (try split) <;> simp

end Go.Proofs.YtpkcjokkadfhcaaDoor.W
