/-
  What the project's Binary and Unary answer of any operation and any numbers is what the document answers: the statement AluMakes, of the landed program. No conditions.
-/
import Derived.Test.YtoljghgmpilecaaAMakesRow
import Derived.Test.YtoljghgmpilecaaAUn
namespace Go.Proofs.Ytoljghgmpilecaa
open Go.RowKit

theorem makes_holds : Rows.AluMakesSaid := makes_row (Lib.hid bin_any) (Lib.hid un_any)

end Go.Proofs.Ytoljghgmpilecaa
