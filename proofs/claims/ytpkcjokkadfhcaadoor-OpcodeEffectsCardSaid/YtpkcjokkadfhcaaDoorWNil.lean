/-
  What Nil answers, the code's and the document's; great. No conditions.
-/
import Derived.Test.YtpkcjokkadfhcaaDoorWCheck
namespace Go.Proofs.YtpkcjokkadfhcaaDoor.W
open Go.RowKit

/-! ### great -/

end Go.Proofs.YtpkcjokkadfhcaaDoor.W
