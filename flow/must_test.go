package flow_test

import (
	"slices"
	"testing"

	"backstay/api"
	"backstay/flow"
)

// P11.2: distances, written out: by how many steps at least, over what goes ahead and back.
func TestP11_2DistanceWrittenOut(t *testing.T) {
	for _, c := range []struct {
		l    string
		want []int
	}{
		{"ret", []int{0}},
		{"jmp 0", []int{0}},
		{"nop, nop, nop, ret", []int{0, 1, 2, 3}},
		{"jz 3, nop, nop, ret", []int{0, 1, 2, 1}},
		{"jz 2, nop, nop, ret", []int{0, 1, 1, 2}},
		{"jz 0, jz 1, jz 0, ret", []int{0, 1, 2, 3}},
		{"jmp 3, nop, ret, jmp 1", []int{0, 2, 3, 1}},
		{"jmp 4, ret, jmp 1, jmp 2, jmp 3", []int{0, 4, 3, 2, 1}},
		{"jz 4, nop, nop, ret, jz 3, ret", []int{0, 1, 2, 2, 1, 2}},
		{"jz 2, jz 6, jz 5, nop, nop, nop, ret", []int{0, 1, 1, 2, 3, 2, 2}},
	} {
		l := texts(t, c.l)
		for at, want := range c.want {
			if got, e := flow.Distance(l, at); got != want || e != api.OK {
				t.Errorf("%s, %d: %d, error %d; want %d", c.l, at, got, e, want)
			}
		}
	}
}

// P11.2: where flows meet, written out: at two places ahead, or, at 0, one; never by places that are not reached.
func TestP11_2MeetsWrittenOut(t *testing.T) {
	for _, c := range []struct {
		l    string
		want []int
	}{
		{"ret", nil},
		{"nop, nop, ret", nil},
		{"jmp 0", []int{0}},
		{"jz 0, ret", []int{0}},
		{"jz 1, ret", nil},
		{"jz 2, nop, ret", []int{2}},
		{"jz 2, ret, ret", nil},
		{"nop, jmp 1", []int{1}},
		{"nop, jz 1, ret", []int{1}},
		{"nop, jmp 0", []int{0}},
		{"ret, jmp 0, jmp 0", nil},
		{"ret, jmp 2, jmp 1", nil},
		{"jmp 2, nop, ret", nil},
		{"jz 4, jz 4, jz 4, nop, ret", []int{4}},
		{"jz 0, jz 0, jz 0, jmp 0", []int{0}},
		{"jz 2, jz 3, jz 0, jz 1, ret", []int{0, 1, 2, 3}},
		{"jmp 2, jmp 2, nop, ret", nil},
		{"jz 2, jmp 2, nop, ret", []int{2}},
	} {
		if got := flow.Meets(texts(t, c.l)); !slices.Equal(got, c.want) {
			t.Errorf("%s: %v; want %v", c.l, got, c.want)
		}
	}
}

// P11.2: what must be passed, written out: 0 and the place itself always; not what ways go around; what all ways have.
func TestP11_2MustWrittenOut(t *testing.T) {
	for _, c := range []struct {
		l    string
		at   int
		want []int
	}{
		{"ret", 0, []int{0}},
		{"jmp 0", 0, []int{0}},
		{"nop, jmp 0", 0, []int{0}},
		{"nop, jmp 0", 1, []int{0, 1}},
		{"nop, nop, nop, ret", 3, []int{0, 1, 2, 3}},
		{"nop, nop, nop, ret", 1, []int{0, 1}},
		{"jz 2, nop, ret", 2, []int{0, 2}},
		{"jz 2, nop, ret", 1, []int{0, 1}},
		{"jz 1, nop, ret", 2, []int{0, 1, 2}},
		{"jmp 2, nop, ret", 2, []int{0, 2}},
		{"jmp 3, nop, ret, jmp 1", 2, []int{0, 1, 2, 3}},
		{"jmp 4, ret, jmp 1, jmp 2, jmp 3", 1, []int{0, 1, 2, 3, 4}},
		// Two ways that meet, go apart, and meet.
		{"jz 3, nop, nop, jz 6, nop, nop, ret", 6, []int{0, 3, 6}},
		{"jz 3, nop, nop, jz 6, nop, nop, ret", 5, []int{0, 3, 4, 5}},
		{"jz 3, nop, nop, jz 6, nop, nop, ret", 2, []int{0, 1, 2}},
		// Ways that go around all that is between.
		{"jz 5, nop, nop, nop, nop, ret", 5, []int{0, 5}},
		{"jz 2, jz 3, jz 4, nop, nop, ret", 5, []int{0, 4, 5}},
		{"jz 2, jz 3, jz 4, jmp 5, nop, ret", 5, []int{0, 5}},
		// Ways that cross: none of the places between is on each.
		{"jz 3, jz 4, jmp 5, jz 2, nop, ret", 5, []int{0, 5}},
		// The way around goes back behind the place first.
		{"jz 4, nop, nop, ret, jmp 2", 3, []int{0, 2, 3}},
		{"jz 5, nop, nop, nop, ret, jmp 2", 4, []int{0, 2, 3, 4}},
		// Going back leads around nothing.
		{"nop, nop, jz 1, nop, ret", 4, []int{0, 1, 2, 3, 4}},
		{"nop, jz 0, jz 0, jz 1, ret", 4, []int{0, 1, 2, 3, 4}},
		// A place that is not reached is on no way.
		{"jmp 2, jmp 3, nop, ret", 3, []int{0, 2, 3}},
	} {
		if got, e := flow.Must(texts(t, c.l), c.at); !slices.Equal(got, c.want) || e != api.OK {
			t.Errorf("%s, %d: %v, error %d; want %v", c.l, c.at, got, e, c.want)
		}
	}
}

// P11.2: to where one comes back, written out: by one step, by many; not where a loop is only left, or only entered.
func TestP11_2LoopsWrittenOut(t *testing.T) {
	for _, c := range []struct {
		l    string
		want []int
	}{
		{"ret", nil},
		{"nop, nop, ret", nil},
		{"jz 2, nop, ret", nil},
		{"jz 1, ret", nil},
		{"jmp 1, ret", nil},
		{"jmp 0", []int{0}},
		{"jz 0, ret", []int{0}},
		{"nop, jmp 1", []int{1}},
		{"nop, jz 1, ret", []int{1}},
		{"nop, jmp 0", []int{0, 1}},
		{"nop, nop, nop, jz 0, ret", []int{0, 1, 2, 3}},
		{"nop, nop, nop, jz 2, ret", []int{2, 3}},
		{"nop, jz 4, nop, jmp 1, ret", []int{1, 2, 3}},
		{"nop, jz 5, jz 4, jmp 1, jmp 1, ret", []int{1, 2, 3, 4}},
		{"ret, jmp 2, jmp 1", nil},
		{"ret, jmp 1", nil},
		{"jmp 3, nop, ret, jmp 1", nil},
		{"jmp 3, nop, jmp 3, jmp 1", []int{1, 2, 3}},
		{"jz 0, nop, jz 2, nop, jz 3, ret", []int{0, 2, 3, 4}},
		{"jz 3, ret, jmp 1, jz 3, jmp 2", []int{3}},
	} {
		if got := flow.Loops(texts(t, c.l)); !slices.Equal(got, c.want) {
			t.Errorf("%s: %v; want %v", c.l, got, c.want)
		}
	}
}

// P11.2: what must be passed is what all ways have, told one by one.
func TestP11_2MustIsOnAllWays(t *testing.T) {
	for _, l := range append(short(4), many(4, 9, 3000)...) {
		if !isBody(l) {
			continue
		}
		g := graph(l)
		for at := range l {
			ways := waysTo(g, at)
			if len(ways) == 0 {
				isNotReached(t, l, at)
				continue
			}
			want := where(len(l), func(p int) bool {
				return !slices.ContainsFunc(ways, func(way []int) bool { return !slices.Contains(way, p) })
			})
			if got, e := flow.Must(l, at); !slices.Equal(got, want) || e != api.OK {
				t.Errorf("%v, %d: %v, error %d; want %v", l, at, got, e, want)
			}
			least := len(slices.MinFunc(ways, func(a, b []int) int { return len(a) - len(b) })) - 1
			if got, e := flow.Distance(l, at); got != least || e != api.OK {
				t.Errorf("%v, %d: distance %d, error %d; want %d", l, at, got, e, least)
			}
		}
	}
}

// upTo are the places up to one, by so many.
func upTo(last, by int) []int {
	var l []int
	for at := 0; at <= last; at += by {
		l = append(l, at)
	}
	return l
}

// P11.2: the longest body whose places follow one another.
func TestP11_2Most(t *testing.T) {
	l := long(512)
	if got := flow.Reached(l); !slices.Equal(got, upTo(511, 1)) {
		t.Errorf("reached %v", got)
	}
	for at := range l {
		if n, e := flow.Distance(l, at); n != at || e != api.OK {
			t.Errorf("distance of %d: %d, error %d", at, n, e)
		}
		if m, e := flow.Must(l, at); !slices.Equal(m, upTo(at, 1)) || e != api.OK {
			t.Errorf("must of %d: %v, error %d", at, m, e)
		}
	}
	if meets, loops := flow.Meets(l), flow.Loops(l); len(meets) != 0 || len(loops) != 0 {
		t.Errorf("meets %v, loops %v", meets, loops)
	}
	l[511] = api.Instr{Op: api.OpJmp}
	if meets, loops := flow.Meets(l), flow.Loops(l); !slices.Equal(meets, []int{0}) || !slices.Equal(loops, upTo(511, 1)) {
		t.Errorf("with a jmp to 0: meets %v, loops %v", meets, loops)
	}
	l[511] = api.Instr{Op: api.OpJmp, A: 511}
	if meets, loops := flow.Meets(l), flow.Loops(l); !slices.Equal(meets, []int{511}) || !slices.Equal(loops, []int{511}) {
		t.Errorf("with a jmp to itself: meets %v, loops %v", meets, loops)
	}
}

// P11.2: the longest bodies in which ways go around each place, and around each second one.
func TestP11_2MostWaysAround(t *testing.T) {
	l := ladder(512)
	for _, at := range []int{2, 3, 100, 510, 511} {
		if m, e := flow.Must(l, at); !slices.Equal(m, []int{0, at}) || e != api.OK {
			t.Errorf("ladder, %d: %v, error %d", at, m, e)
		}
		if n, e := flow.Distance(l, at); n != (at+1)/2 || e != api.OK {
			t.Errorf("ladder, %d: distance %d, error %d", at, n, e)
		}
	}
	l = diamonds(511)
	if m, e := flow.Must(l, 510); !slices.Equal(m, upTo(510, 2)) || e != api.OK {
		t.Errorf("diamonds: %v, error %d", m, e)
	}
	if got := flow.Meets(l); !slices.Equal(got, upTo(510, 2)[1:]) {
		t.Errorf("diamonds: meets %v", got)
	}
}

// P11.1 and P11.2: a place with as many ahead of it as there are places, and 0 with as many.
func TestP11_2MostAhead(t *testing.T) {
	for _, to := range []int{0, 300, 511} {
		l := each(512, func(int) api.Instr { return api.Instr{Op: api.OpJz, A: int64(to)} })
		want := upTo(510, 1)
		if got, e := flow.Ahead(l, to); !slices.Equal(got, want) || e != api.OK {
			t.Errorf("%d: %v, error %d", to, got, e)
		}
		if got := flow.Meets(l); !slices.Equal(got, []int{to}) {
			t.Errorf("%d: meets %v", to, got)
		}
		if n, e := flow.Distance(l, to); n != min(to, 1) || e != api.OK {
			t.Errorf("%d: distance %d, error %d", to, n, e)
		}
	}
}

// P11.2: a long body that is gone through backward: each place is reached only from the one behind it.
func TestP11_2Backward(t *testing.T) {
	l := make([]api.Instr, 512)
	for at := range l {
		l[at] = api.Instr{Op: api.OpJmp, A: int64(max(at-1, 1))}
	}
	l[0].A, l[1] = 511, api.Instr{Op: api.OpRet}
	if got := flow.Reached(l); !slices.Equal(got, upTo(511, 1)) {
		t.Errorf("reached %v", got)
	}
	if n, e := flow.Distance(l, 1); n != 511 || e != api.OK {
		t.Errorf("distance %d, error %d", n, e)
	}
	if m, e := flow.Must(l, 1); !slices.Equal(m, upTo(511, 1)) || e != api.OK {
		t.Errorf("must %v, error %d", m, e)
	}
	if m, e := flow.Must(l, 500); !slices.Equal(m, append([]int{0}, upTo(511, 1)[500:]...)) || e != api.OK {
		t.Errorf("must %v, error %d", m, e)
	}
	if got, e := flow.Ahead(l, 300); !slices.Equal(got, []int{301}) || e != api.OK {
		t.Errorf("ahead %v, error %d", got, e)
	}
}
