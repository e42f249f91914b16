/-
  A number converted twice is converted once, and lies within what so many bits tell: the statement AluConverts, of the landed program. No conditions.
-/
import Derived.Test.YtoljghgmpilecaaAConvRow
import Derived.Test.YtoljghgmpilecaaAUn
namespace Go.Proofs.Ytoljghgmpilecaa
open Go.RowKit

theorem converts_holds : Rows.AluConvertsSaid := converts_row (Lib.hid bin_any) (Lib.hid un_any)

end Go.Proofs.Ytoljghgmpilecaa
