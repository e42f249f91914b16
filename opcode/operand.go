package opcode

import (
	"math"
	"strconv"

	"backstay/alu"
	"backstay/api"
	"backstay/value"
)

// operand is what the numbers of a kind may be, and how they are told as text.
type operand struct {
	kind        int
	least, most int64
	show        func(n int64) string
	guess       func(s string) int64 // the number of a text, if that is any's; else one that has another text
}

// operandOf is a kind's; where there is none, 0 alone may be, and nothing is told of it.
func operandOf(kind int) operand {
	switch kind {
	case api.OperandNumber:
		return digits(kind, math.MinInt64, math.MaxInt64)
	case api.OperandType:
		return worded(kind, api.TypeI, api.TypeP, value.Letter, lettered)
	case api.OperandHeld:
		return worded(kind, api.TypeI, api.TypeF, value.Letter, lettered)
	case api.OperandSlot:
		return digits(kind, 0, api.MaxSlots-1)
	case api.OperandShape:
		return digits(kind, 0, api.MaxShapes-1)
	case api.OperandCell:
		return digits(kind, 0, api.MaxCells-1)
	case api.OperandFunction:
		return digits(kind, 0, api.MaxFunctions-1)
	case api.OperandBin:
		return worded(kind, api.BinAdd, api.Bins-1, alu.BinName, alu.BinOf)
	case api.OperandUn:
		return worded(kind, api.UnNeg, api.Uns-1, alu.UnName, alu.UnOf)
	case api.OperandPlace:
		return digits(kind, 0, api.MaxBody-1)
	}
	return operand{}
}

// digits is a kind whose numbers are told by their digits.
func digits(kind int, least, most int64) operand {
	return operand{
		kind: kind, least: least, most: most,
		show: func(n int64) string { return strconv.FormatInt(n, 10) },
		guess: func(s string) int64 {
			// Of a text that is no number's, or of one too great, what stands in has another text.
			n, _ := strconv.ParseInt(s, 10, 64)
			return n
		},
	}
}

// worded is a kind whose numbers have words that tell them.
func worded(kind int, least, most int64, wordOf func(n int) string, of func(word string) (int, api.Errno)) operand {
	return operand{
		kind: kind, least: least, most: most,
		show: func(n int64) string { return wordOf(int(n)) },
		guess: func(s string) int64 {
			// Of no word it is 0, which is no type, or has a word of its own.
			n, _ := of(s)
			return int64(n)
		},
	}
}

// lettered is the type of a letter.
func lettered(letter string) (int, api.Errno) {
	l, e := value.Types(letter)
	if e != api.OK || len(l) != 1 {
		return 0, api.ErrOpcode
	}
	return l[0], api.OK
}

// has says whether a number is one of the kind.
func (o operand) has(n int64) bool {
	return n >= o.least && n <= o.most
}
