/-
  Part 1 of the proofs of GLoopsRow, GReachRow, GMustRow, GNamesRow: what is laid, and what the functions that the law runs answer. Conditions: each theorem names its own.
-/
import Derived.Laws.Bits64
import Derived.Laws.BitsAllLaws
import Derived.WalkKit
namespace Go.Proofs.YtghdibbooegocaaGreatDoor.V
open Go.RowKit

def wd (n : Nat) : Nat :=
 if n < 128 then 1 else if n < 16384 then 2 else if n < 2097152 then 3 else if n < 268435456 then 4 else if n < 34359738368 then 5
 else if n < 4398046511104 then 6 else if n < 562949953421312 then 7 else if n < 72057594037927936 then 8 else 9

end Go.Proofs.YtghdibbooegocaaGreatDoor.V
