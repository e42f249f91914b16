/-
  Nothing of the shelf is needed at this seat. No conditions.
-/
import Derived.Shelf.Small.Bits
import Derived.Test.YtbnekeomdhljhaaDoorProg
namespace Go.Proofs
end Go.Proofs
