package function_test

import (
	"encoding/hex"
	"math"
	"slices"
	"strings"
	"testing"

	"backstay/api"
)

// letters and digits are what names are made of.
const (
	letters = "abcdefghijklmnopqrstuvwxyzABCDEFGHIJKLMNOPQRSTUVWXYZ"
	digits  = "0123456789"
)

// known are the types, as the chapter on values tells them.
func known() []int { return []int{api.TypeI, api.TypeR, api.TypeF, api.TypeP} }

// held are those that may be a result.
func held() []int { return []int{api.TypeI, api.TypeR, api.TypeF} }

// noTypes are numbers that no type has, some of which have a type's lowest bits.
func noTypes() []int {
	return []int{math.MinInt, -1 << 32, -4, -1, 0, 5, 6, 8, 256 + api.TypeI, 1<<32 + api.TypeR, math.MaxInt}
}

// typed are the types of letters.
func typed(s string) []int {
	var l []int
	for _, c := range s {
		l = append(l, strings.IndexRune(" IRFP", c))
	}
	return l
}

// long are so many types out of some, that come in no simple turn, by a number that starts them.
func long(n, start int, of []int) []int {
	l := make([]int, n)
	seed := uint64(start)*2654435761 + 12345
	for i := range l {
		seed = seed*6364136223846793005 + 1442695040888963407
		l[i] = of[seed>>33%uint64(len(of))]
	}
	return l
}

// body is a list of instructions, and its bytes.
type body struct {
	l []api.Instr
	b string
}

// bodies are some, with their bytes written out.
func bodies() []body {
	whole := make([]api.Instr, 512)
	whole[511].Op = api.OpRet
	return []body{
		{[]api.Instr{{Op: api.OpRet}}, "01 18"},
		{[]api.Instr{{Op: api.OpJmp}}, "01 12 00"},
		{[]api.Instr{{Op: api.OpInt, A: -1}, {Op: api.OpPanic}}, "02 01 01 19"},
		// What it refers to is not asked here: it may be that there is no such slot, shape or function.
		{[]api.Instr{{Op: api.OpLoad, A: 63}, {Op: api.OpNew, A: 63}, {Op: api.OpCall, A: 63}, {Op: api.OpGoexit}}, "04 03 3F 08 3F 14 3F 1B"},
		{[]api.Instr{{Op: api.OpIn}, {Op: api.OpDrop}, {Op: api.OpJz, A: 4}, {Op: api.OpNop}, {Op: api.OpRet}}, "05 1D 0D 13 04 00 18"},
		{whole, "82 00" + strings.Repeat(" 00", 511) + " 18"},
	}
}

// noBodies are lists that are none.
func noBodies() [][]api.Instr {
	return [][]api.Instr{
		nil,
		{},
		{{Op: api.OpNop}},
		{{Op: api.OpJz}},
		{{Op: api.OpJmp, A: 1}},
		{{Op: api.OpJz, A: 2}, {Op: api.OpRet}},
		{{Op: api.OpRet, A: 1}},
		{{Op: api.OpRet, B: -1}},
		{{Op: api.Ops}, {Op: api.OpRet}},
		{{Op: -1}},
		{{Op: api.OpZero}, {Op: api.OpRet}},
		append(make([]api.Instr, 512), api.Instr{Op: api.OpRet}),
	}
}

// isName says whether a text is one, as the chapter tells.
func isName(s string) bool {
	return len(s) >= 1 && len(s) <= 32 && strings.IndexByte(letters, s[0]) >= 0 && !slices.ContainsFunc([]byte(s), func(b byte) bool {
		return strings.IndexByte(letters+digits, b) < 0
	})
}

// names are some, the shortest and the longest among them.
func names() []string {
	return []string{
		"f", "Z", "a0", "main", "Main", "sum", "x9y8z7", "jmp", "I", "nil",
		strings.Repeat("a", 31), strings.Repeat("z", 32), strings.Repeat("A", 32), "Z" + strings.Repeat("9", 31), "a" + digits + "zAZ",
	}
}

// noNames are texts that are none.
func noNames() []string {
	return []string{
		"", "0", "9", "1a", "0x", "_", "_a", "a_", "a_b", " ", " a", "a ", "a b", "a\n", "\na", "a\x00", "\x00", "\x00a",
		"@", "[", "`", "{", "/", ":", "a@", "a[", "a`", "a{", "a/", "a:", "a-b", "a.b", "a>", "-a", "#1", "@0", "&",
		"\u00e9", "a\u00e9", "\u00e9a", "\uff41", "a\uff41", "\u0430", "a\u0430", "a\uff11", "a\u0663", "\u00aa", "\u212a", "a\u212a", "\u017f", "\xff", "a\xff", "a\x80", "\xe1", "a\xe1",
		strings.Repeat("a", 33), strings.Repeat("a", 64), strings.Repeat("a", 256+1), strings.Repeat("a", 1<<16+1),
		strings.Repeat("a", 31) + "_", strings.Repeat("a", 31) + "\u00e9", strings.Repeat("a", 32) + "\x00",
	}
}

// sig is the signature of two texts of letters.
func sig(args, results string) api.Signature {
	return api.Signature{Args: typed(args), Results: typed(results)}
}

// example is the function of the chapter's examples.
func example() api.Function {
	return api.Function{Name: "f", Sig: sig("IP", "R"), Locals: typed("F"), Body: []api.Instr{{Op: api.OpRet}}}
}

// sized is a function that may be, with so many arguments, results and locals of all types, and the name and body of a number.
func sized(args, results, locals, i int) api.Function {
	return api.Function{
		Name:   names()[i%len(names())],
		Sig:    api.Signature{Args: long(args, i, known()), Results: long(results, i+1, held())},
		Locals: long(locals, i+2, known()),
		Body:   bodies()[i%len(bodies())].l,
	}
}

// triples are numbers of arguments, results and locals that are so many together.
func triples(n int) [][3]int {
	var all [][3]int
	for _, a := range []int{0, 1, n / 3, n - 1, n} {
		for _, b := range []int{0, 1, (n - a) / 2, n - a - 1, n - a} {
			if a >= 0 && b >= 0 && a+b <= n {
				all = append(all, [3]int{a, b, n - a - b})
			}
		}
	}
	return all
}

// functions are some that may be: each name, each body, and numbers of slots up to the greatest.
func functions() []api.Function {
	all := []api.Function{example()}
	for _, name := range names() {
		f := example()
		f.Name = name
		all = append(all, f)
	}
	for _, x := range bodies() {
		f := example()
		f.Body = x.l
		all = append(all, f)
	}
	for i, n := range []int{0, 1, 2, 3, 4, 5, 8, 16, 17, 62, 63, 64} {
		for j, s := range triples(n) {
			all = append(all, sized(s[0], s[1], s[2], 7*i+j))
		}
	}
	for _, t := range known() {
		all = append(all,
			api.Function{Name: "args", Sig: api.Signature{Args: slices.Repeat([]int{t}, 64)}, Body: bodies()[0].l},
			api.Function{Name: "locals", Locals: slices.Repeat([]int{t}, 64), Body: bodies()[0].l})
	}
	for _, t := range held() {
		all = append(all, api.Function{Name: "results", Sig: api.Signature{Results: slices.Repeat([]int{t}, 64)}, Body: bodies()[0].l})
	}
	return all
}

// noFunctions are some that may not be, most of them for one reason alone.
func noFunctions() []api.Function {
	all := []api.Function{{}, {Name: "f"}, {Body: bodies()[0].l}}
	for _, name := range noNames() {
		f := example()
		f.Name = name
		all = append(all, f)
	}
	for _, l := range noBodies() {
		f := example()
		f.Body = l
		all = append(all, f)
	}
	for i, n := range []int{65, 66, 96, 128, 129, 192, 256, 320, 1024, 1025} {
		for j, s := range triples(n) {
			all = append(all, sized(s[0], s[1], s[2], 7*i+j))
		}
	}
	return append(all, wrongTypes()...)
}

// wrongTypes are functions one of whose slots has a type that it may not have, wherever that stands.
func wrongTypes() []api.Function {
	var all []api.Function
	for _, n := range []int{1, 2, 5, 21} {
		for _, at := range []int{0, n / 2, n - 1} {
			for i, t := range append(noTypes(), api.TypeP) {
				f, g, h := sized(n, n, n, i), sized(n, n, n, i), sized(n, n, n, i)
				g.Sig.Results[at] = t
				all = append(all, g)
				if t != api.TypeP {
					f.Sig.Args[at], h.Locals[at] = t, t
					all = append(all, f, h)
				}
			}
		}
	}
	return all
}

// bytesOf are a function's bytes, as the chapter tells; the body is one of bodies.
func bytesOf(t *testing.T, f api.Function) []byte {
	t.Helper()
	b := append([]byte{byte(len(f.Name))}, f.Name...)
	b = slices.Concat(b, packed(f.Sig.Args), packed(f.Sig.Results), packed(f.Locals), []byte{0})
	for _, x := range bodies() {
		if slices.Equal(x.l, f.Body) {
			return append(b, unhex(t, x.b)...)
		}
	}
	t.Fatalf("%v: no body whose bytes are written out", f)
	return nil
}

// packed are types' bytes, as the chapter on shapes tells.
func packed(l []int) []byte {
	b := []byte{byte(len(l))}
	for four := range slices.Chunk(l, 4) {
		x, worth := 0, 1
		for _, t := range four {
			x += (t - 1) * worth
			worth *= 4
		}
		b = append(b, byte(x))
	}
	return b
}

// slot is what one is, and its type.
type slot struct{ what, t int }

// slotsOf are a function's slots, as the chapter tells.
func slotsOf(f api.Function) []slot {
	var l []slot
	for _, t := range f.Sig.Args {
		l = append(l, slot{api.SlotArg, t})
	}
	for _, t := range f.Sig.Results {
		l = append(l, slot{api.SlotResult, t})
	}
	for _, t := range f.Locals {
		l = append(l, slot{api.SlotLocal, t})
	}
	return l
}

// typesOf are the types of a function's slots.
func typesOf(f api.Function) []int {
	return slices.Concat(f.Sig.Args, f.Sig.Results, f.Locals)
}

// valued are values of types, none of them nil or 0, by a number that starts them.
func valued(l []int, start int) []api.Value {
	var v []api.Value
	for i, t := range l {
		n := int64(start + 3*i + 1)
		if t == api.TypeI && i%2 == 1 {
			n = -n
		}
		v = append(v, api.Value{Type: t, N: n})
	}
	return v
}

// zeros are types' zeros.
func zeros(l []int) []api.Value {
	var v []api.Value
	for _, t := range l {
		v = append(v, api.Value{Type: t})
	}
	return v
}

// like says whether two functions are one; no list and an empty one are the same.
func like(f, g api.Function) bool {
	return f.Name == g.Name && slices.Equal(f.Sig.Args, g.Sig.Args) && slices.Equal(f.Sig.Results, g.Sig.Results) &&
		slices.Equal(f.Locals, g.Locals) && slices.Equal(f.Body, g.Body)
}

// nothing says whether a function is none: what stands beside an error.
func nothing(f api.Function) bool { return like(f, api.Function{}) }

// again is a function that is the same, in memory of its own, with room behind each list.
func again(f api.Function) api.Function {
	return api.Function{
		Name:   strings.Clone(f.Name),
		Sig:    api.Signature{Args: roomy(f.Sig.Args), Results: roomy(f.Sig.Results)},
		Locals: roomy(f.Locals),
		Body:   roomy(f.Body),
	}
}

// roomy is a list in memory of its own, that goes on behind it.
func roomy[T any](l []T) []T {
	whole := append(make([]T, 0, len(l)+3), l...)
	return whole[: len(l) : len(l)+3]
}

// unhex are the bytes that a text tells, in pairs of digits.
func unhex(t *testing.T, s string) []byte {
	t.Helper()
	b, err := hex.DecodeString(strings.ReplaceAll(s, " ", ""))
	if err != nil {
		t.Fatal(err)
	}
	return b
}
