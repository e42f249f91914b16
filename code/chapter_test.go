package code_test

import (
	"encoding/hex"
	"slices"
	"strings"
	"testing"

	"backstay/api"
	"backstay/opcode"
)

// texts are the instructions of a text that has a comma between two.
func texts(t *testing.T, s string) []api.Instr {
	t.Helper()
	var l []api.Instr
	for _, one := range strings.Split(s, ",") {
		x, e := opcode.Read(strings.TrimSpace(one))
		if e != api.OK {
			t.Fatalf("%q is no instruction's text", one)
		}
		l = append(l, x)
	}
	return l
}

// unhex are the bytes that a text tells, in pairs of digits.
func unhex(t *testing.T, s string) []byte {
	t.Helper()
	b, err := hex.DecodeString(strings.ReplaceAll(s, " ", ""))
	if err != nil {
		t.Fatal(err)
	}
	return b
}

// goes says whether an instruction goes to places, by its op.
func goes(x api.Instr) bool { return x.Op == api.OpJmp || x.Op == api.OpJz }

// ends says whether nothing goes on behind an instruction, by its op.
func ends(x api.Instr) bool {
	return slices.Contains([]int{api.OpJmp, api.OpRet, api.OpPanic, api.OpGoexit}, x.Op)
}

// isBody says whether a list is one, as the chapter tells.
func isBody(l []api.Instr) bool {
	if len(l) < 1 || len(l) > 512 || !ends(l[len(l)-1]) {
		return false
	}
	return !slices.ContainsFunc(l, func(x api.Instr) bool {
		return opcode.Check(x) != api.OK || goes(x) && x.A >= int64(len(l))
	})
}

// headsOf are a body's heads, as the chapter tells: each place is asked.
func headsOf(l []api.Instr) []int {
	var heads []int
	for at := range l {
		gone := slices.ContainsFunc(l, func(x api.Instr) bool { return goes(x) && x.A == int64(at) })
		if at == 0 || gone || ends(l[at-1]) || l[at-1].Op == api.OpJz {
			heads = append(heads, at)
		}
	}
	return heads
}

// bytesOf are a body's bytes, as the chapter tells.
func bytesOf(l []api.Instr) []byte {
	b := []byte{byte(len(l))}
	if len(l) > 127 {
		b = []byte{0x80 | byte(len(l)>>8), byte(len(l))}
	}
	for _, x := range l {
		one, _ := opcode.Encode(x)
		b = append(b, one...)
	}
	return b
}

// withOne is what Insert answers, as the chapter tells.
func withOne(l []api.Instr, at int, x api.Instr) ([]api.Instr, api.Errno) {
	if !isBody(l) || at < 0 || at >= len(l) {
		return nil, api.ErrCode
	}
	var m []api.Instr
	for i, y := range l {
		if i == at {
			m = append(m, x)
		}
		if goes(y) && y.A > int64(at) {
			y.A++
		}
		m = append(m, y)
	}
	if !isBody(m) {
		return nil, api.ErrCode
	}
	return m, api.OK
}

// withoutOne is what Delete answers, as the chapter tells.
func withoutOne(l []api.Instr, at int) ([]api.Instr, api.Errno) {
	if !isBody(l) || at < 0 || at >= len(l) {
		return nil, api.ErrCode
	}
	var m []api.Instr
	for i, y := range l {
		if i == at {
			continue
		}
		if goes(y) && y.A > int64(at) {
			y.A--
		}
		m = append(m, y)
	}
	if !isBody(m) {
		return nil, api.ErrCode
	}
	return m, api.OK
}

// some are instructions of all kinds that matter to a body, with some that may not be.
func some() []api.Instr {
	return []api.Instr{
		{Op: api.OpNop}, {Op: api.OpInt, A: -300},
		{Op: api.OpRet}, {Op: api.OpPanic}, {Op: api.OpGoexit},
		{Op: api.OpJmp}, {Op: api.OpJmp, A: 1}, {Op: api.OpJmp, A: 2}, {Op: api.OpJmp, A: 3}, {Op: api.OpJmp, A: 4},
		{Op: api.OpJz}, {Op: api.OpJz, A: 1}, {Op: api.OpJz, A: 2}, {Op: api.OpJz, A: 3},
		{Op: api.OpRet, A: 1}, {Op: api.OpJmp, A: -1},
	}
}

// lists are all lists of so many instructions out of some.
func lists(n int, of []api.Instr) [][]api.Instr {
	if n == 0 {
		return [][]api.Instr{nil}
	}
	var all [][]api.Instr
	for _, l := range lists(n-1, of) {
		for _, x := range of {
			all = append(all, append(slices.Clone(l), x))
		}
	}
	return all
}

// short are all lists of no, one, two and three instructions out of some.
func short() [][]api.Instr {
	var all [][]api.Instr
	for n := range 4 {
		all = append(all, lists(n, some())...)
	}
	return all
}

// long is a body of so many instructions: nops, and a ret.
func long(n int) []api.Instr {
	l := make([]api.Instr, n)
	l[n-1].Op = api.OpRet
	return l
}

// varied is a body of so many instructions of all ops, that go to and fro, by a number that starts them.
func varied(n, start int) []api.Instr {
	l := make([]api.Instr, n)
	seed := uint64(start)*2654435761 + 12345
	next := func(below int) int {
		seed = seed*6364136223846793005 + 1442695040888963407
		return int(seed >> 33 % uint64(below))
	}
	for at := range l {
		switch x := (api.Instr{Op: next(api.Ops)}); {
		case goes(x):
			l[at] = api.Instr{Op: x.Op, A: int64(next(n))}
		case x.Op == api.OpInt:
			l[at] = api.Instr{Op: x.Op, A: int64(next(1<<30)) - 1<<29}
		case x.Op == api.OpGet || x.Op == api.OpSet:
			l[at] = api.Instr{Op: x.Op, A: int64(next(16)), B: int64(1 + next(3))}
		case opcode.Check(x) == api.OK:
			l[at] = x
		default:
			l[at] = api.Instr{Op: x.Op, A: 1}
		}
	}
	l[n-1] = []api.Instr{{Op: api.OpRet}, {Op: api.OpJmp, A: int64(next(n))}, {Op: api.OpPanic}, {Op: api.OpGoexit}}[next(4)]
	return l
}

// many are bodies of many lengths, up to the greatest one.
func many(t *testing.T) [][]api.Instr {
	t.Helper()
	var all [][]api.Instr
	for i, n := range []int{1, 2, 3, 5, 8, 20, 20, 60, 126, 127, 128, 129, 255, 256, 257, 400, 511, 512} {
		l := varied(n, i)
		if !isBody(l) {
			t.Fatalf("of %d: no body", n)
		}
		all = append(all, l, long(n))
	}
	return all
}

// places are those of a list at both its ends, and each eleventh one between.
func places(l []api.Instr) []int {
	var all []int
	for at := range l {
		if at < 4 || at%11 == 0 || at > len(l)-4 {
			all = append(all, at)
		}
	}
	return all
}

// nobodies are lists that are no bodies.
func nobodies(t *testing.T) [][]api.Instr {
	t.Helper()
	return [][]api.Instr{
		nil,
		{},
		texts(t, "nop"),
		texts(t, "in, drop, jz 0"),
		texts(t, "jz 0"),
		texts(t, "recover"),
		texts(t, "ret, call 0"),
		texts(t, "jmp 1"),
		texts(t, "jmp 2, ret"),
		texts(t, "jz 2, ret"),
		texts(t, "jz 511, ret"),
		texts(t, "nop, jmp 511"),
		{{Op: api.OpNop, A: 1}, {Op: api.OpRet}},
		{{Op: api.OpRet, A: 1}},
		{{Op: api.OpRet, B: -1}},
		{{Op: api.Ops}, {Op: api.OpRet}},
		{{Op: -1}},
		{{Op: api.OpRet}, {Op: api.Ops}},
		{{Op: api.OpZero}, {Op: api.OpRet}},
		{{Op: api.OpGet, A: 0, B: 4}, {Op: api.OpRet}},
		{{Op: api.OpJmp, A: -1}},
		{{Op: api.OpJz, A: -1}, {Op: api.OpRet}},
		{{Op: api.OpJmp, A: 1 << 32}},
		{{Op: api.OpJmp, A: 512}},
		long(513),
		long(514),
		long(1000),
		append(long(512), api.Instr{Op: api.OpRet}),
	}
}
