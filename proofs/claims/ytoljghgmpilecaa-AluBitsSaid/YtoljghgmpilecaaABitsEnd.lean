/-
  And, or, xor, andnot, not and shifts of any two numbers are those of sets of bits: the statement AluBits, of the landed program. No conditions.
-/
import Derived.Test.YtoljghgmpilecaaABitsRow
import Derived.Test.YtoljghgmpilecaaAUn
namespace Go.Proofs.Ytoljghgmpilecaa
open Go.RowKit

theorem bits_holds : Rows.AluBitsSaid := bits_row (Lib.hid bin_any) (Lib.hid un_any)

end Go.Proofs.Ytoljghgmpilecaa
