/-
  What each operation makes of any two numbers, and what is wrong, is what the document answers: the statement AluAll, of the landed program. No conditions.
-/
import Derived.Test.YtoljghgmpilecaaAAllRow
import Derived.Test.YtoljghgmpilecaaAUn
namespace Go.Proofs.Ytoljghgmpilecaa
open Go.RowKit

theorem all_holds : Rows.AluAllSaid := all_row (Lib.hid bin_any) (Lib.hid un_any)

end Go.Proofs.Ytoljghgmpilecaa
