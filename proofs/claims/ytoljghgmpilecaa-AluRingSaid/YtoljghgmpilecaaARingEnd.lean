/-
  Sums and products of any three numbers hang on no order: the statement AluRing, of the landed program. No conditions.
-/
import Derived.Test.YtoljghgmpilecaaARingRow
import Derived.Test.YtoljghgmpilecaaAUn
namespace Go.Proofs.Ytoljghgmpilecaa
open Go.RowKit

theorem ring_holds : Rows.AluRingSaid := ring_row (Lib.hid bin_any) (Lib.hid un_any)

end Go.Proofs.Ytoljghgmpilecaa
