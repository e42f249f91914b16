/-
  Of any a, and b that is not 0, the quotient times b, and the remainder, are a again: the statement AluDivides, of the landed program. No conditions.
-/
import Derived.Test.YtoljghgmpilecaaADivRow
import Derived.Test.YtoljghgmpilecaaAUn
namespace Go.Proofs.Ytoljghgmpilecaa
open Go.RowKit

theorem divides_holds : Rows.AluDividesSaid := divides_row (Lib.hid bin_any) (Lib.hid un_any)

end Go.Proofs.Ytoljghgmpilecaa
