/-
  The plain mathematics of layer opcode: the rows of instructions, the ranges of operands, which instructions may be, what an operand and an instruction are as text and as bytes. No program, no conditions.
-/
import Derived.Test.YtpkcjokkadfhcaaDoorWPure
import Derived.Test.YtpkcjokkadfhcaaDoorANamesB
import Derived.Test.YtpkcjokkadfhcaaDoorVEnc
namespace Go.Proofs.YtpkcjokkadfhcaaDoor.O

/-- An instruction's row. -/
structure Row where
  name : List UInt8
  ka : Int
  kb : Int
  ta : Int
  tb : Int
  la : Int
  lb : Int
  hop : Bool
  fin : Bool

def rowsL : List Row := [
  ⟨[110, 111, 112], 0, 0, 0, 0, 0, 0, false, false⟩,
  ⟨[105, 110, 116], 1, 0, 0, 0, 1, 0, false, false⟩,
  ⟨[122, 101, 114, 111], 2, 0, 0, 0, -1, 0, false, false⟩,
  ⟨[108, 111, 97, 100], 4, 0, 0, 0, 0, 0, true, false⟩,
  ⟨[115, 116, 111, 114, 101], 4, 0, 0, 0, 0, 0, true, false⟩,
  ⟨[97, 100, 100, 114], 4, 0, 0, 0, 4, 0, false, false⟩,
  ⟨[108, 100, 112], 0, 0, 4, 0, 1, 0, false, false⟩,
  ⟨[115, 116, 112], 0, 0, 4, 1, 0, 0, false, false⟩,
  ⟨[110, 101, 119], 5, 0, 0, 0, 2, 0, false, false⟩,
  ⟨[103, 101, 116], 6, 3, 2, 0, -2, 0, false, false⟩,
  ⟨[115, 101, 116], 6, 3, 2, -2, 0, 0, false, false⟩,
  ⟨[102, 117, 110, 99], 7, 0, 0, 0, 3, 0, false, false⟩,
  ⟨[100, 117, 112], 0, 0, 0, 0, 0, 0, true, false⟩,
  ⟨[100, 114, 111, 112], 0, 0, 0, 0, 0, 0, true, false⟩,
  ⟨[115, 119, 97, 112], 0, 0, 0, 0, 0, 0, true, false⟩,
  ⟨[98, 105, 110], 8, 0, 1, 1, 1, 0, false, false⟩,
  ⟨[117, 110], 9, 0, 1, 0, 1, 0, false, false⟩,
  ⟨[101, 113], 2, 0, -1, -1, 1, 0, false, false⟩,
  ⟨[106, 109, 112], 10, 0, 0, 0, 0, 0, false, true⟩,
  ⟨[106, 122], 10, 0, 1, 0, 0, 0, false, false⟩,
  ⟨[99, 97, 108, 108], 7, 0, 0, 0, 0, 0, true, false⟩,
  ⟨[99, 97, 108, 108, 105], 7, 0, 0, 0, 0, 0, true, false⟩,
  ⟨[100, 101, 102, 101, 114], 7, 0, 0, 0, 0, 0, true, false⟩,
  ⟨[100, 101, 102, 101, 114, 105], 7, 0, 0, 0, 0, 0, true, false⟩,
  ⟨[114, 101, 116], 0, 0, 0, 0, 0, 0, false, true⟩,
  ⟨[112, 97, 110, 105, 99], 0, 0, 1, 0, 0, 0, false, true⟩,
  ⟨[114, 101, 99, 111, 118, 101, 114], 0, 0, 0, 0, 1, 1, false, false⟩,
  ⟨[103, 111, 101, 120, 105, 116], 0, 0, 0, 0, 0, 0, false, true⟩,
  ⟨[112, 114, 105, 110, 116], 0, 0, 1, 0, 0, 0, false, false⟩,
  ⟨[105, 110], 0, 0, 0, 0, 1, 1, false, false⟩]
theorem rows_length : rowsL.length = 30 := rfl

def row0 : Row := ⟨[], 0, 0, 0, 0, 0, 0, false, false⟩
/-- Is the number an instruction's? -/
def isOp (op : Int) : Bool := decide (0 ≤ op ∧ op < 30)
/-- The row of a number; an empty one, if it is no instruction's. -/
def rowAt (op : Int) : Row := if isOp op = true then rowsL.getD op.toNat row0 else row0

/-- The least and the greatest number of a kind of operands. -/
def lo (k : Int) : Int := if k = 1 then -9223372036854775808 else if k = 2 ∨ k = 3 then 1 else 0
def hi (k : Int) : Int :=
  if k = 1 then 9223372036854775807 else if k = 2 then 4 else if k = 3 then 3 else if k = 4 ∨ k = 5 ∨ k = 7 then 63 else if k = 6 then 15 else if k = 8 then 13 else if k = 9 then 8 else if k = 10 then 511 else 0
def inK (k n : Int) : Bool := decide (lo k ≤ n ∧ n ≤ hi k)
/-- May the instruction be? -/
def okI (op a b : Int) : Bool := isOp op && inK (rowAt op).ka a && inK (rowAt op).kb b

theorem isOp_yes {op : Int} (h : isOp op = true) : 0 ≤ op ∧ op < 30 := of_decide_eq_true h
theorem isOp_no {op : Int} (h : isOp op = false) : ¬ (0 ≤ op ∧ op < 30) := of_decide_eq_false h
theorem rowAt_no {op : Int} (h : isOp op = false) : rowAt op = row0 := by unfold rowAt; rw [if_neg (by rw [h]; decide)]
theorem rowAt_yes {op : Int} (h : isOp op = true) : ∃ hk : op.toNat < rowsL.length, rowAt op = rowsL[op.toNat] := by
  have hb := isOp_yes h
  have hk : op.toNat < rowsL.length := by rw [rows_length]; omega
  refine ⟨hk, ?_⟩
  unfold rowAt
  rw [if_pos h, List.getD_eq_getElem?_getD, List.getElem?_eq_getElem hk]; rfl

/-- What holds of each row, and of the empty one, holds of each number's. -/
theorem rowAt_all {p : Row → Bool} (h : rowsL.all p = true) (h0 : p row0 = true) (op : Int) : p (rowAt op) = true := by
  cases ho : isOp op
  · rw [rowAt_no ho]; exact h0
  · obtain ⟨hk, e⟩ := rowAt_yes ho
    rw [e]; exact List.all_eq_true.1 h _ (List.getElem_mem hk)

/-- An operand's text. -/
def word (k n : Int) : List UInt8 := if k = 2 ∨ k = 3 then W.letC n else if k = 8 then A.nameAt A.binNs n else if k = 9 then A.nameAt A.unNs n else Lib.itoa n
def partL (k n : Int) : List UInt8 := if k = 0 then [] else 32 :: word k n
/-- An instruction's text; nothing, if it may not be. -/
def textI (op a b : Int) : List UInt8 := (rowAt op).name ++ (partL (rowAt op).ka a ++ partL (rowAt op).kb b)
def showI (op a b : Int) : List UInt8 := if okI op a b = true then textI op a b else []

/-- An operand's bytes. -/
def encP (k n : Int) : List UInt8 := if k = 0 then [] else if k = 1 then V.encL (V.zig n) else V.encL n.toNat
def bytesI (op a b : Int) : List UInt8 := V.encL op.toNat ++ (encP (rowAt op).ka a ++ encP (rowAt op).kb b)
def encI (op a b : Int) : List UInt8 := if okI op a b = true then bytesI op a b else []

/-- The types of a pair, with those that an instruction names put in. -/
def tyOf (t a b : Int) : Int := if t = -1 then a else if t = -2 then b else t
def typesL (t u a b : Int) : List Int := if t = 0 then [] else if u = 0 then [tyOf t a b] else [tyOf t a b, tyOf u a b]

theorem ok_op {op a b : Int} (h : okI op a b = true) : isOp op = true ∧ inK (rowAt op).ka a = true ∧ inK (rowAt op).kb b = true := by
  unfold okI at h
  simp only [Bool.and_eq_true] at h
  exact ⟨h.1.1, h.1.2, h.2⟩

end Go.Proofs.YtpkcjokkadfhcaaDoor.O
