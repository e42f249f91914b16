/-
  What Fits answers. Conditions: the lists lie in memory.
-/
import Derived.Test.YtpkcjokkadfhcaaDoorWZeros
namespace Go.Proofs.YtpkcjokkadfhcaaDoor.W
open Go.RowKit

/-- May all of the values be, and have they just these types? -/
def allOk (x : List (Int × Int)) : Bool := x.all fun v => okB v.1 v.2
def fitsB (l : List Int) (x : List (Int × Int)) : Bool := decide (l = ts x) && allOk x
theorem fits_true (l : List Int) (x : List (Int × Int)) : fitsB l x = true ↔ l = ts x ∧ allOk x = true := by unfold fitsB; simp
theorem fits_false (l : List Int) (x : List (Int × Int)) (h : ¬ (l = ts x ∧ allOk x = true)) : fitsB l x = false := by
  cases hf : fitsB l x
  · rfl
  · exact absurd ((fits_true l x).1 hf) h

end Go.Proofs.YtpkcjokkadfhcaaDoor.W
