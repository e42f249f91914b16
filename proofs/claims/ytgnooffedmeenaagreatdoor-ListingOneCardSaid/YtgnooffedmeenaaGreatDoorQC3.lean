/-
  Part 3 of the proofs of LNamesRow, LOneRow: what is laid, and what the functions that the law runs answer. Conditions: each theorem names its own.
-/
import Derived.Lib.Hide
import Derived.LoopIn
import Derived.LoopNIn
import Derived.Maps.AppendAt
import Derived.OwnWalkIn
import Derived.RangeFuncBound
import Derived.RangeFuncBox
import Derived.RangeFuncCalls
import Derived.RangeFuncLeaves
import Derived.RangeFuncNested
import Derived.Shelf.Abstract
import Derived.Shelf.RegionOpen
import Derived.TacticsInMore
import Derived.WalkLawsBesides
import Derived.WalkSpells
import Derived.Test.YtgnooffedmeenaaGreatDoorQC1
import Derived.Test.YtgnooffedmeenaaGreatDoorQC2
namespace Go.Proofs.YtgnooffedmeenaaGreatDoor.V
open Go.RowKit

def mk (w : Nat) : Nat := 65280 / 2 ^ (w - 1) % 256

end Go.Proofs.YtgnooffedmeenaaGreatDoor.V

namespace Go.Proofs.YtgnooffedmeenaaGreatDoor.V
open Go.RowKit Go.Shelf
attribute [local go_sem] Oper.semAt_some

end Go.Proofs.YtgnooffedmeenaaGreatDoor.V

namespace Go.Proofs.YtgnooffedmeenaaGreatDoor.V
open Go.RowKit Go.Shelf
attribute [local go_sem] Oper.semAt_some

abbrev bv (b : UInt8) : Value := .int .u8 (b.toNat : Int)
abbrev bvs (l : List UInt8) : List Value := l.map bv

end Go.Proofs.YtgnooffedmeenaaGreatDoor.V
