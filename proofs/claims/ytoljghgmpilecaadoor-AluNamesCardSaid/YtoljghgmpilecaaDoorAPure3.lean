/-
  What each operation of layer alu makes, or what is wrong, or the error, as functions of the numbers. No program, no conditions.
-/
import Derived.Test.YtoljghgmpilecaaDoorAPure2
namespace Go.Proofs.YtoljghgmpilecaaDoor
open Go.RowKit

/-- What a binary operation makes of two numbers (0, where nothing is made). -/
def binN (op a b : Int) : Int :=
  if op = 0 then wrap64 (a + b) else if op = 1 then wrap64 (a - b) else if op = 2 then wrap64 (a * b)
  else if op = 3 then (if b = 0 then 0 else wrap64 (a.tdiv b)) else if op = 4 then (if b = 0 then 0 else a.tmod b)
  else if op = 5 then bits .and .i64 a b else if op = 6 then bits .or .i64 a b else if op = 7 then bits .xor .i64 a b else if op = 8 then bits .andNot .i64 a b
  else if op = 9 then (if b < 0 then 0 else wrap64 (a * 2 ^ min b.toNat 64)) else if op = 10 then (if b < 0 then 0 else a / 2 ^ min b.toNat 64)
  else if op = 11 then (if a < b then 1 else 0) else if op = 12 then (if a ≤ b then 1 else 0) else if op = 13 then (if a = b then 1 else 0) else 0
/-- The code of what is wrong. -/
def binC (op b : Int) : Int := if (op = 3 ∨ op = 4) ∧ b = 0 then 2 else if (op = 9 ∨ op = 10) ∧ b < 0 then 4 else 0
/-- The error. -/
def binE (op : Int) : Int := if 0 ≤ op ∧ op < 14 then 0 else 30

/-- What a unary operation makes of a number (0, where nothing is made). -/
def unN (op a : Int) : Int :=
  if op = 0 then wrap64 (-a) else if op = 1 then -1 - a else if op = 2 then (if a = 0 then 1 else 0)
  else if op = 3 then IntKind.i8.wrap a else if op = 4 then IntKind.i16.wrap a else if op = 5 then IntKind.i32.wrap a
  else if op = 6 then IntKind.u8.wrap a else if op = 7 then IntKind.u16.wrap a else if op = 8 then IntKind.u32.wrap a else 0
def unE (op : Int) : Int := if 0 ≤ op ∧ op < 9 then 0 else 30

theorem un_i8 (a : Int) : unN 3 a = IntKind.i8.wrap a := by unfold unN; rw [if_neg (by decide), if_neg (by decide), if_neg (by decide), if_pos rfl]
theorem un_i16 (a : Int) : unN 4 a = IntKind.i16.wrap a := by unfold unN; rw [if_neg (by decide), if_neg (by decide), if_neg (by decide), if_neg (by decide), if_pos rfl]
theorem un_i32 (a : Int) : unN 5 a = IntKind.i32.wrap a := by unfold unN; rw [if_neg (by decide), if_neg (by decide), if_neg (by decide), if_neg (by decide), if_neg (by decide), if_pos rfl]
theorem un_u8 (a : Int) : unN 6 a = IntKind.u8.wrap a := by unfold unN; rw [if_neg (by decide), if_neg (by decide), if_neg (by decide), if_neg (by decide), if_neg (by decide), if_neg (by decide), if_pos rfl]
theorem un_u16 (a : Int) : unN 7 a = IntKind.u16.wrap a := by unfold unN; rw [if_neg (by decide), if_neg (by decide), if_neg (by decide), if_neg (by decide), if_neg (by decide), if_neg (by decide), if_neg (by decide), if_pos rfl]
theorem un_u32 (a : Int) : unN 8 a = IntKind.u32.wrap a := by unfold unN; rw [if_neg (by decide), if_neg (by decide), if_neg (by decide), if_neg (by decide), if_neg (by decide), if_neg (by decide), if_neg (by decide), if_neg (by decide), if_pos rfl]
theorem un_neg (a : Int) : unN 0 a = wrap64 (-a) := by unfold unN; rw [if_pos rfl]


end Go.Proofs.YtoljghgmpilecaaDoor
