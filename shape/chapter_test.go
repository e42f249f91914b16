package shape_test

import (
	"encoding/hex"
	"math"
	"slices"
	"strconv"
	"strings"
	"testing"

	"backstay/api"
)

// known are the types, as the chapter on values tells them.
func known() []int { return []int{api.TypeI, api.TypeR, api.TypeF, api.TypeP} }

// heldTypes are those that may stand in a shape, or be a result.
func heldTypes() []int { return []int{api.TypeI, api.TypeR, api.TypeF} }

// noTypes are numbers that no type has, some of which have a type's lowest bits.
func noTypes() []int {
	return []int{math.MinInt, -1 << 32, -256 + api.TypeI, -4, -3, -2, -1, 0, 5, 6, 7, 8, 9, 64, 256 + api.TypeI, 1<<32 + api.TypeR, math.MaxInt}
}

// allOf says whether a list has nothing but what another one has.
func allOf(l, of []int) bool {
	return !slices.ContainsFunc(l, func(t int) bool { return !slices.Contains(of, t) })
}

// mayShape says whether a shape may be, as the chapter tells.
func mayShape(s []int) bool {
	return len(s) >= 1 && len(s) <= 16 && allOf(s, heldTypes())
}

// maySignature says whether a signature may be, as the chapter tells.
func maySignature(g api.Signature) bool {
	return allOf(g.Args, known()) && allOf(g.Results, heldTypes()) && len(g.Args)+len(g.Results) <= 64
}

// bytesOf are types' bytes, as the chapter tells: each byte as its bits' text, the later types ahead of the earlier ones.
func bytesOf(l []int) []byte {
	b := []byte{byte(len(l))}
	for _, four := range slices.Collect(slices.Chunk(l, 4)) {
		bits := ""
		for _, t := range four {
			bits = map[int]string{api.TypeI: "00", api.TypeR: "01", api.TypeF: "10", api.TypeP: "11"}[t] + bits
		}
		x, _ := strconv.ParseUint(bits, 2, 8)
		b = append(b, byte(x))
	}
	return b
}

// signed are a signature's bytes, as the chapter tells.
func signed(g api.Signature) []byte {
	return append(bytesOf(g.Args), bytesOf(g.Results)...)
}

// letters are types' letters.
func letters(l []int) string {
	s := ""
	for _, t := range l {
		s += string(" IRFP"[t])
	}
	return s
}

// typed are the types of letters.
func typed(s string) []int {
	var l []int
	for _, c := range s {
		l = append(l, strings.IndexRune(" IRFP", c))
	}
	return l
}

// sig is the signature of two texts of letters.
func sig(args, results string) api.Signature {
	return api.Signature{Args: typed(args), Results: typed(results)}
}

// like says whether two signatures are one; no list and an empty one are the same.
func like(a, b api.Signature) bool {
	return slices.Equal(a.Args, b.Args) && slices.Equal(a.Results, b.Results)
}

// nothing says whether a signature is none: what stands beside an error.
func nothing(g api.Signature) bool { return len(g.Args)+len(g.Results) == 0 }

// lists are all lists of up to so many out of some.
func lists(n int, of []int) [][]int {
	all := [][]int{nil}
	for from := 0; n > 0; n-- {
		upTo := len(all)
		for _, l := range all[from:upTo] {
			for _, t := range of {
				all = append(all, append(slices.Clone(l), t))
			}
		}
		from = upTo
	}
	return all
}

// long are so many types out of some, that come in no simple turn, by a number that starts them.
func long(n, start int, of []int) []int {
	l := make([]int, n)
	seed := uint64(start)*2654435761 + 12345
	for i := range l {
		seed = seed*6364136223846793005 + 1442695040888963407
		l[i] = of[seed>>33%uint64(len(of))]
	}
	return l
}

// shapes are some that may be: all of up to five cells, and longer ones up to the longest.
func shapes() [][]int {
	all := lists(5, heldTypes())[1:]
	for n := 6; n <= 16; n++ {
		for start := range 8 {
			all = append(all, long(n, start, heldTypes()))
		}
	}
	for _, t := range heldTypes() {
		for _, n := range []int{15, 16} {
			all = append(all, slices.Repeat([]int{t}, n))
		}
	}
	return all
}

// noShapes are some that may not be: none, one that is too long, and one with what may not stand there, wherever that is.
func noShapes() [][]int {
	all := [][]int{nil, {}}
	for _, n := range []int{17, 18, 20, 64, 65, 128, 256, 257, 1024, 1025, 1 << 16} {
		all = append(all, long(n, n, heldTypes()))
	}
	for _, t := range append(noTypes(), api.TypeP) {
		for _, n := range []int{1, 2, 4, 5, 15, 16, 17} {
			for _, at := range []int{0, n / 2, n - 1} {
				s := long(n, n, heldTypes())
				s[at] = t
				all = append(all, s)
			}
		}
	}
	return all
}

// signatures are some that may be: all of up to three arguments and two results, and longer ones up to the longest.
func signatures() []api.Signature {
	var all []api.Signature
	for _, args := range lists(3, known()) {
		for _, results := range lists(2, heldTypes()) {
			all = append(all, api.Signature{Args: args, Results: results})
		}
	}
	for _, n := range []int{4, 5, 15, 16, 17, 62, 63, 64} {
		for _, args := range []int{0, 1, 2, 3, 4, n / 2, n - 2, n - 1, n} {
			all = append(all, api.Signature{Args: long(args, n, known()), Results: long(n-args, args, heldTypes())})
		}
	}
	return append(all,
		api.Signature{Args: slices.Repeat([]int{api.TypeP}, 64)},
		api.Signature{Results: slices.Repeat([]int{api.TypeF}, 64)},
	)
}

// noSignatures are some that may not be: too long, or with what may not stand there, wherever that is.
func noSignatures() []api.Signature {
	var all []api.Signature
	for _, n := range []int{65, 66, 80, 127, 128, 129, 256, 320, 1024, 1025, 2048} {
		for _, args := range []int{0, 1, n / 2, n - 1, n} {
			all = append(all, api.Signature{Args: long(args, n, known()), Results: long(n-args, args, heldTypes())})
		}
	}
	for _, n := range []int{1, 2, 5, 63, 64} {
		for _, at := range []int{0, n / 2, n - 1} {
			for _, t := range noTypes() {
				l := long(n, n, heldTypes())
				l[at] = t
				all = append(all, api.Signature{Args: l}, api.Signature{Results: l})
			}
			l := long(n, n, heldTypes())
			l[at] = api.TypeP
			all = append(all, api.Signature{Results: l}, api.Signature{Args: typed("P"), Results: l[:at+1]})
		}
	}
	return all
}

// unhex are the bytes that a text tells, in pairs of digits.
func unhex(t *testing.T, s string) []byte {
	t.Helper()
	b, err := hex.DecodeString(strings.ReplaceAll(s, " ", ""))
	if err != nil {
		t.Fatal(err)
	}
	return b
}
