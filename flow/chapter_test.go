package flow_test

import (
	"math/rand/v2"
	"slices"
	"strings"
	"testing"

	"backstay/api"
	"backstay/flow"
	"backstay/opcode"
)

// texts are the instructions of a text that has a comma between two.
func texts(t *testing.T, s string) []api.Instr {
	t.Helper()
	var l []api.Instr
	for _, one := range strings.Split(s, ",") {
		x, e := opcode.Read(strings.TrimSpace(one))
		if e != api.OK {
			t.Fatalf("%q is no instruction's text", one)
		}
		l = append(l, x)
	}
	return l
}

// goes says whether an instruction goes to places, by its op.
func goes(x api.Instr) bool { return x.Op == api.OpJmp || x.Op == api.OpJz }

// ends says whether nothing goes on behind an instruction, by its op.
func ends(x api.Instr) bool {
	return slices.Contains([]int{api.OpJmp, api.OpRet, api.OpPanic, api.OpGoexit}, x.Op)
}

// isBody says whether a list is one, as layer 5's chapter tells.
func isBody(l []api.Instr) bool {
	if len(l) < 1 || len(l) > 512 || !ends(l[len(l)-1]) {
		return false
	}
	return !slices.ContainsFunc(l, func(x api.Instr) bool {
		return opcode.Check(x) != api.OK || goes(x) && x.A >= int64(len(l))
	})
}

// behindOf are the places that come behind one of a body, as the chapter tells: each is asked.
func behindOf(l []api.Instr, at int) []int {
	var behind []int
	for place := range l {
		gone := goes(l[at]) && l[at].A == int64(place)
		next := !ends(l[at]) && place == at+1
		if gone || next {
			behind = append(behind, place)
		}
	}
	return behind
}

// graph is a body as the places behind each one.
func graph(l []api.Instr) [][]int {
	g := make([][]int, len(l))
	for at := range l {
		g[at] = behindOf(l, at)
	}
	return g
}

// never is the distance of what is not reached.
const never = 1 << 30

// distancesOf are all places' distances, by relaxing all steps till nothing changes; no way goes over the place that is left out.
func distancesOf(g [][]int, leftOut int) []int {
	d := make([]int, len(g))
	for at := range d {
		d[at] = never
	}
	if leftOut != 0 {
		d[0] = 0
	}
	for changed := true; changed; {
		changed = false
		for at := range g {
			for _, to := range g[at] {
				if to != leftOut && d[at]+1 < d[to] {
					d[to] = d[at] + 1
					changed = true
				}
			}
		}
	}
	return d
}

// where are the places that it is said of.
func where(n int, said func(at int) bool) []int {
	var l []int
	for at := range n {
		if said(at) {
			l = append(l, at)
		}
	}
	return l
}

// answers are what the chapter tells of a body.
type answers struct {
	behind, ahead, must   [][]int
	reached, meets, loops []int
	distances             []int
}

// answersOf are those of a body, by the chapter's words. What must be passed is what is left out, so that the place is not reached.
func answersOf(l []api.Instr) answers {
	g := graph(l)
	n := len(g)
	a := answers{behind: g, ahead: make([][]int, n), must: make([][]int, n), distances: distancesOf(g, -1)}
	isReached := func(at int) bool { return a.distances[at] != never }
	a.reached = where(n, isReached)
	for at := range g {
		a.ahead[at] = where(n, func(p int) bool { return isReached(p) && slices.Contains(g[p], at) })
	}
	a.meets = where(n, func(at int) bool {
		return isReached(at) && (len(a.ahead[at]) >= 2 || at == 0 && len(a.ahead[at]) >= 1)
	})
	for _, p := range a.reached {
		without := distancesOf(g, p)
		for _, at := range a.reached {
			if without[at] == never {
				a.must[at] = append(a.must[at], p)
			}
		}
	}
	leads := closureOf(g)
	a.loops = where(n, func(at int) bool { return isReached(at) && leads[at][at] })
	return a
}

// closureOf says from where to where ways of one step or more lead.
func closureOf(g [][]int) [][]bool {
	leads := make([][]bool, len(g))
	for at := range g {
		leads[at] = make([]bool, len(g))
		for _, to := range g[at] {
			leads[at][to] = true
		}
	}
	for over := range g {
		for from := range g {
			if leads[from][over] {
				for to := range g {
					leads[from][to] = leads[from][to] || leads[over][to]
				}
			}
		}
	}
	return leads
}

// waysTo are all ways from 0 to a place that have no place twice. What all of them have, all ways have.
func waysTo(g [][]int, at int) [][]int {
	var all [][]int
	var from func(way []int)
	from = func(way []int) {
		last := way[len(way)-1]
		if last == at {
			all = append(all, slices.Clone(way))
			return
		}
		for _, to := range g[last] {
			if !slices.Contains(way, to) {
				from(append(slices.Clone(way), to))
			}
		}
	}
	from([]int{0})
	return all
}

// holds holds all that flow tells of a list to what the chapter tells.
func holds(t *testing.T, l []api.Instr) {
	t.Helper()
	if !isBody(l) {
		isNone(t, l)
		return
	}
	a := answersOf(l)
	if got := flow.Reached(l); !slices.Equal(got, a.reached) {
		t.Errorf("%v: reached %v; want %v", l, got, a.reached)
	}
	if got := flow.Meets(l); !slices.Equal(got, a.meets) {
		t.Errorf("%v: meets %v; want %v", l, got, a.meets)
	}
	if got := flow.Loops(l); !slices.Equal(got, a.loops) {
		t.Errorf("%v: loops %v; want %v", l, got, a.loops)
	}
	for at := range l {
		if got, e := flow.Behind(l, at); !slices.Equal(got, a.behind[at]) || e != api.OK {
			t.Errorf("%v: behind %d %v, error %d; want %v", l, at, got, e, a.behind[at])
		}
		if a.distances[at] == never {
			isNotReached(t, l, at)
			continue
		}
		if got, e := flow.Ahead(l, at); !slices.Equal(got, a.ahead[at]) || e != api.OK {
			t.Errorf("%v: ahead of %d %v, error %d; want %v", l, at, got, e, a.ahead[at])
		}
		if got, e := flow.Distance(l, at); got != a.distances[at] || e != api.OK {
			t.Errorf("%v: distance of %d %d, error %d; want %d", l, at, got, e, a.distances[at])
		}
		if got, e := flow.Must(l, at); !slices.Equal(got, a.must[at]) || e != api.OK {
			t.Errorf("%v: must of %d %v, error %d; want %v", l, at, got, e, a.must[at])
		}
	}
}

// isNotReached holds a place to being one of which nothing is told but what comes behind it.
func isNotReached(t *testing.T, l []api.Instr, at int) {
	t.Helper()
	if got, e := flow.Ahead(l, at); len(got) != 0 || e != api.ErrFlow {
		t.Errorf("%v: ahead of %d %v, error %d; want ErrFlow", l, at, got, e)
	}
	if got, e := flow.Distance(l, at); got != 0 || e != api.ErrFlow {
		t.Errorf("%v: distance of %d %d, error %d; want ErrFlow", l, at, got, e)
	}
	if got, e := flow.Must(l, at); len(got) != 0 || e != api.ErrFlow {
		t.Errorf("%v: must of %d %v, error %d; want ErrFlow", l, at, got, e)
	}
}

// isNoPlace holds a number to being no place of a list.
func isNoPlace(t *testing.T, l []api.Instr, at int) {
	t.Helper()
	if got, e := flow.Behind(l, at); len(got) != 0 || e != api.ErrFlow {
		t.Errorf("%v: behind %d %v, error %d; want ErrFlow", l, at, got, e)
	}
	isNotReached(t, l, at)
}

// isNone holds a list to being no body.
func isNone(t *testing.T, l []api.Instr) {
	t.Helper()
	for name, got := range map[string][]int{"Reached": flow.Reached(l), "Meets": flow.Meets(l), "Loops": flow.Loops(l)} {
		if len(got) != 0 {
			t.Errorf("%v: %s %v; want nothing", l, name, got)
		}
	}
	for at := -1; at <= min(len(l), 6); at++ {
		isNoPlace(t, l, at)
	}
	isNoPlace(t, l, len(l)-1)
}

// some are instructions of all kinds that matter to flow.
func some() []api.Instr {
	return []api.Instr{
		{Op: api.OpNop}, {Op: api.OpRet}, {Op: api.OpPanic}, {Op: api.OpGoexit},
		{Op: api.OpJmp}, {Op: api.OpJmp, A: 1}, {Op: api.OpJmp, A: 2}, {Op: api.OpJmp, A: 3},
		{Op: api.OpJz}, {Op: api.OpJz, A: 1}, {Op: api.OpJz, A: 2}, {Op: api.OpJz, A: 3},
	}
}

// lists are all lists of so many instructions out of some.
func lists(n int, of []api.Instr) [][]api.Instr {
	if n == 0 {
		return [][]api.Instr{nil}
	}
	var all [][]api.Instr
	for _, l := range lists(n-1, of) {
		for _, x := range of {
			all = append(all, append(slices.Clone(l), x))
		}
	}
	return all
}

// short are all lists of up to so many instructions out of some.
func short(most int) [][]api.Instr {
	var all [][]api.Instr
	for n := range most + 1 {
		all = append(all, lists(n, some())...)
	}
	return all
}

// each is a body of so many instructions, told place by place; the last one is a ret.
func each(n int, tell func(at int) api.Instr) []api.Instr {
	l := make([]api.Instr, n)
	for at := range l {
		l[at] = tell(at)
	}
	l[n-1] = api.Instr{Op: api.OpRet}
	return l
}

// long is a body of so many instructions: nops, and a ret.
func long(n int) []api.Instr {
	return each(n, func(int) api.Instr { return api.Instr{} })
}

// ladder is a body of so many instructions, from each of which one comes to the next one, and to the one behind that.
func ladder(n int) []api.Instr {
	return each(n, func(at int) api.Instr { return api.Instr{Op: api.OpJz, A: int64(min(at+2, n-1))} })
}

// diamonds is a body of so many instructions in which each second place is gone around.
func diamonds(n int) []api.Instr {
	return each(n, func(at int) api.Instr {
		if at%2 == 1 {
			return api.Instr{}
		}
		return api.Instr{Op: api.OpJz, A: int64(min(at+2, n-1))}
	})
}

// byChance is a body of so many instructions, of which so many in a hundred go to and fro, and so many end.
func byChance(r *rand.Rand, n, going, ending int) []api.Instr {
	enders := []int{api.OpJmp, api.OpRet, api.OpPanic, api.OpGoexit}
	others := []int{api.OpNop, api.OpDup, api.OpCall, api.OpPrint, api.OpIn, api.OpRecover, api.OpDefer}
	one := func(op int) api.Instr {
		x := api.Instr{Op: op}
		if goes(x) {
			x.A = int64(r.IntN(n))
		}
		return x
	}
	l := make([]api.Instr, n)
	for at := range l {
		switch which := r.IntN(100); {
		case which < going:
			l[at] = one(api.OpJz)
		case which < going+ending:
			l[at] = one(enders[r.IntN(len(enders))])
		default:
			l[at] = one(others[r.IntN(len(others))])
		}
	}
	l[n-1] = one(enders[r.IntN(len(enders))])
	return l
}

// many are bodies of many lengths and kinds, by chance.
func many(seed uint64, longest, of int) [][]api.Instr {
	r := rand.New(rand.NewPCG(11, seed))
	var all [][]api.Instr
	for range of {
		all = append(all, byChance(r, 1+r.IntN(longest), r.IntN(70), r.IntN(30)))
	}
	return all
}

// nobodies are lists that are no bodies.
func nobodies(t *testing.T) [][]api.Instr {
	t.Helper()
	return [][]api.Instr{
		nil,
		{},
		texts(t, "nop"),
		texts(t, "in, drop, jz 0"),
		texts(t, "jz 0"),
		texts(t, "ret, call 0"),
		texts(t, "jmp 1"),
		texts(t, "jmp 2, ret"),
		texts(t, "jz 2, ret"),
		texts(t, "ret, jz 3, ret"),
		texts(t, "jz 511, ret"),
		{{Op: api.OpNop, A: 1}, {Op: api.OpRet}},
		{{Op: api.OpRet}, {Op: api.OpNop, B: 1}, {Op: api.OpRet}},
		{{Op: api.OpRet, A: 1}},
		{{Op: api.OpRet, B: -1}},
		{{Op: api.Ops}, {Op: api.OpRet}},
		{{Op: -1}},
		{{Op: api.OpRet}, {Op: api.Ops}},
		{{Op: api.OpZero}, {Op: api.OpRet}},
		{{Op: api.OpGet, A: 0, B: 4}, {Op: api.OpRet}},
		{{Op: api.OpJmp, A: -1}},
		{{Op: api.OpJmp, B: 1}},
		{{Op: api.OpJz, A: -1}, {Op: api.OpRet}},
		{{Op: api.OpJmp, A: 1 << 32}},
		{{Op: api.OpJmp, A: 512}},
		long(513),
		ladder(513),
		long(2000),
	}
}

// outside are numbers that are no places of a body of so many.
func outside(n int) []int {
	return []int{-1 << 63, -1 << 32, -512, -2, -1, n, n + 1, n + 511, 512, 513, 1 << 16, 1 << 32, 1<<63 - 1}
}
