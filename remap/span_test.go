package remap_test

import (
	"fmt"
	"math/rand"
	"slices"
	"testing"

	"staithe/api"
	"staithe/remap"
)

// far is further on than all places that are drawn.
const far = 12

// span is whose a tid is, at all places from one on, up to another one that is not among them.
type span struct{ g, tid, from, till, cut int }

func (s span) record() remap.Record {
	if s.till == far {
		return remap.Record{G: s.g, Tid: s.tid, From: s.from}
	}
	return remap.Record{G: s.g, Tid: s.tid, From: s.from, Gone: true, Till: s.till, Cut: s.cut}
}

// ledger has spans in the order of their births; one that is not gone goes far.
type ledger []span

func (l ledger) at(g int) int {
	return slices.IndexFunc(l, func(s span) bool { return s.g == g })
}

func (l ledger) born(g, tid, at int) (ledger, api.Errno) {
	if l.at(g) >= 0 {
		return l, api.ErrState
	}
	for _, s := range l {
		if s.tid == tid && s.till > at {
			return l, api.ErrState
		}
	}
	return append(slices.Clone(l), span{g, tid, at, far, 0}), api.OK
}

func (l ledger) gone(g, at, cut int) (ledger, api.Errno) {
	i := l.at(g)
	if i < 0 {
		return l, api.ErrNone
	}
	if l[i].till != far || at < l[i].from {
		return l, api.ErrState
	}
	l = slices.Clone(l)
	l[i].till, l[i].cut = at, cut
	return l, api.OK
}

// owners are those whose spans have a place.
func (l ledger) owners(tid, at int) []int {
	var owners []int
	for _, s := range l {
		if s.tid == tid && s.from <= at && at < s.till {
			owners = append(owners, s.g)
		}
	}
	return owners
}

// beside asks a table and a ledger for all there is; and at each place each tid is one's at most (21.3).
func beside(t *testing.T, x *remap.Table, l ledger, goroutines, tids int) {
	t.Helper()
	var want []remap.Record
	for g := range goroutines {
		i := l.at(g)
		r, ok := x.Of(g)
		if ok != (i >= 0) || ok && r != l[i].record() || !ok && r != (remap.Record{}) {
			t.Fatalf("Of(%d): %v, %t: %v", g, r, ok, l)
		}
		if ok {
			want = append(want, r)
		}
	}
	if all := x.All(); !slices.Equal(all, want) {
		t.Fatalf("All: %v, not %v", all, want)
	}
	for tid := range tids {
		for at := -2; at < far; at++ {
			owners := l.owners(tid, at)
			g, ok := x.Owner(tid, at)
			if len(owners) > 1 || ok != (len(owners) == 1) || ok && g != owners[0] || !ok && g != 0 {
				t.Fatalf("Owner(%d, %d): %d, %t, not %v: %v", tid, at, g, ok, owners, l)
			}
		}
	}
}

// call is one of a table.
type call struct {
	born    bool
	g, a, b int // g, tid and at; or g, at and cut
}

func (c call) do(x *remap.Table) api.Errno {
	if c.born {
		return x.Born(c.g, c.a, c.b)
	}
	return x.Gone(c.g, c.a, c.b)
}

func (c call) note(l ledger) (ledger, api.Errno) {
	if c.born {
		return l.born(c.g, c.a, c.b)
	}
	return l.gone(c.g, c.a, c.b)
}

func first() ledger { return ledger{{0, 0, -1, far, 0}} }

// again is the table behind some calls.
func again(calls []call) *remap.Table {
	x := remap.New()
	for _, c := range calls {
		c.do(x)
	}
	return x
}

// TestAllShortPaths: all calls of four goroutines, two tids and three places, up to four behind one another. (Each Gone has one
// cut alone.)
func TestAllShortPaths(t *testing.T) {
	var calls []call
	for g := range 4 {
		for at := -1; at < 2; at++ {
			calls = append(calls, call{false, g, at, g + at + 1})
			for tid := range 2 {
				calls = append(calls, call{true, g, tid, at})
			}
		}
	}
	paths := 0
	var walk func(path []call, l ledger, further int)
	walk = func(path []call, l ledger, further int) {
		if further == 0 {
			return
		}
		for _, c := range calls {
			paths++
			x := again(path)
			more, want := c.note(l)
			if errno := c.do(x); errno != want {
				t.Fatalf("%v behind %v: %v, not %v", c, path, errno, want)
			}
			beside(t, x, more, 4, 3)
			if want == api.OK {
				walk(append(slices.Clone(path), c), more, further-1)
			}
		}
	}
	walk(nil, first(), 4)
	if paths < 5000 {
		t.Errorf("%d paths", paths)
	}
}

func TestDrawnPaths(t *testing.T) {
	r := rand.New(rand.NewSource(21))
	counts := map[string]int{}
	for range 600 {
		x, l := remap.New(), first()
		for i := range 80 {
			at := i/8 - 1 + r.Intn(2) - r.Intn(2)*r.Intn(2) // places mostly rise, so that tids are given again
			c := call{true, r.Intn(20), r.Intn(4), max(at, -1)}
			if r.Intn(2) == 0 {
				c = call{false, r.Intn(20), max(at, -1), r.Intn(9)}
			}
			more, want := c.note(l)
			if errno := c.do(x); errno != want {
				t.Fatalf("%v: %v, not %v: %v", c, errno, want, l)
			}
			l = more
			counts[fmt.Sprint(c.born, want)]++
		}
		beside(t, x, l, 20, 5)
		for tid := range 4 {
			if n := len(slices.DeleteFunc(slices.Clone(l), func(s span) bool { return s.tid != tid })); n > 2 {
				counts["a tid was three ones'"]++
			}
		}
	}
	if len(counts) != 6 || counts["a tid was three ones'"] < 200 {
		t.Errorf("the paths reach too little: %v", counts)
	}
}
