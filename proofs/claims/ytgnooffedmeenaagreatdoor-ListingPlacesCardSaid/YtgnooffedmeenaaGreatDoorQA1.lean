/-
  The plain mathematics of layer 1 (vary): zigzag, widths, digits, what a first byte tells; no program is named here. No conditions.
  What the small functions of vary and of the document's answers return (Zig, Zag, Width, mark, told): just the plain mathematics' numbers; the world stays. No conditions but that a number fits its type.
  The iterator that digits hands back: nine rounds, the highest place first, whatever the loop's body does that keeps the number's box. No conditions.
  encode: a number's bytes, in new memory. No condition but that the number fits its type.
-/
import Derived.Laws.Bits64
import Derived.Laws.BitsAllLaws
import Derived.Lib.Hide
import Derived.LoopIn
import Derived.LoopNIn
import Derived.Maps.AppendAt
import Derived.OwnWalkIn
import Derived.RangeFuncBound
import Derived.RangeFuncBox
import Derived.RangeFuncCalls
import Derived.RangeFuncLeaves
import Derived.RangeFuncNested
import Derived.Shelf.Abstract
import Derived.Shelf.RegionOpen
import Derived.TacticsInMore
import Derived.WalkKit
import Derived.WalkLawsBesides
import Derived.WalkSpells
import Derived.Test.YtgnooffedmeenaaGreatDoorProg
import Derived.Test.YtgnooffedmeenaaGreatDoorShelf
namespace Go.Proofs.YtgnooffedmeenaaGreatDoor.V
open Go.RowKit

/-- How many bytes a number has. -/
def wd (n : Nat) : Nat :=
  if n < 128 then 1 else if n < 16384 then 2 else if n < 2097152 then 3 else if n < 268435456 then 4 else if n < 34359738368 then 5
  else if n < 4398046511104 then 6 else if n < 562949953421312 then 7 else if n < 72057594037927936 then 8 else 9

end Go.Proofs.YtgnooffedmeenaaGreatDoor.V

namespace Go.Proofs.YtgnooffedmeenaaGreatDoor.V
open Go.RowKit

/-- The bits of a first byte that tell a width. -/
def mk (w : Nat) : Nat := 65280 / 2 ^ (w - 1) % 256

end Go.Proofs.YtgnooffedmeenaaGreatDoor.V

namespace Go.Proofs.YtgnooffedmeenaaGreatDoor.V
open Go.RowKit Go.Shelf
attribute [local go_sem] Oper.semAt_some

end Go.Proofs.YtgnooffedmeenaaGreatDoor.V

namespace Go.Proofs.YtgnooffedmeenaaGreatDoor.V
open Go.RowKit Go.Shelf
attribute [local go_sem] Oper.semAt_some

/-- A byte as a cell. -/
abbrev bv (b : UInt8) : Value := .int .u8 (b.toNat : Int)
abbrev bvs (l : List UInt8) : List Value := l.map bv

end Go.Proofs.YtgnooffedmeenaaGreatDoor.V
