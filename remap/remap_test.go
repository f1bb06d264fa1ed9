package remap_test

import (
	"fmt"
	"math"
	"slices"
	"testing"

	"staithe/api"
	"staithe/remap"
)

var noTids = []int{math.MinInt, -256, -1, 256, 257, 1 << 20, math.MaxInt}

func born(t *testing.T, x *remap.Table, g, tid, at int, want api.Errno) {
	t.Helper()
	before := look(x)
	if errno := x.Born(g, tid, at); errno != want {
		t.Errorf("Born(%d, %d, %d): %v, not %v", g, tid, at, errno, want)
	}
	if after := look(x); want != api.OK && after != before {
		t.Errorf("Born(%d, %d, %d): %v, and it is %s, was %s", g, tid, at, want, after, before)
	}
}

func gone(t *testing.T, x *remap.Table, g, at, cut int, want api.Errno) {
	t.Helper()
	before := look(x)
	if errno := x.Gone(g, at, cut); errno != want {
		t.Errorf("Gone(%d, %d, %d): %v, not %v", g, at, cut, errno, want)
	}
	if after := look(x); want != api.OK && after != before {
		t.Errorf("Gone(%d, %d, %d): %v, and it is %s, was %s", g, at, cut, want, after, before)
	}
}

// look is all that can be asked of a table, at some places and of some tids.
func look(x *remap.Table) string {
	s := fmt.Sprint(x.All())
	for g := -1; g < 9; g++ {
		r, ok := x.Of(g)
		s += fmt.Sprint("; ", r, ok)
	}
	for _, tid := range []int{-1, 0, 1, 2, 255, 256} {
		for at := -2; at < 12; at++ {
			g, ok := x.Owner(tid, at)
			s += fmt.Sprint("; ", g, ok)
		}
	}
	return s
}

// has has a table have just these records.
func has(t *testing.T, x *remap.Table, want ...remap.Record) {
	t.Helper()
	if l := x.All(); !slices.Equal(l, want) {
		t.Errorf("All: %v, not %v", l, want)
	}
	for _, w := range want {
		if r, ok := x.Of(w.G); r != w || !ok {
			t.Errorf("Of(%d): %v, %t, not %v", w.G, r, ok, w)
		}
	}
}

func owner(t *testing.T, x *remap.Table, tid, at, want int) {
	t.Helper()
	if g, ok := x.Owner(tid, at); g != want || !ok {
		t.Errorf("Owner(%d, %d): %d, %t, not %d", tid, at, g, ok, want)
	}
}

func nobodys(t *testing.T, x *remap.Table, tid, at int) {
	t.Helper()
	if g, ok := x.Owner(tid, at); g != 0 || ok {
		t.Errorf("Owner(%d, %d): %d, %t", tid, at, g, ok)
	}
}

func TestNew(t *testing.T) {
	x := remap.New()
	has(t, x, remap.Record{From: -1})
	for _, at := range []int{-1, 0, 1, math.MaxInt} {
		owner(t, x, 0, at, 0)
		nobodys(t, x, 1, at)
	}
	nobodys(t, x, 0, -2)
	nobodys(t, x, 0, math.MinInt)
	born(t, x, 1, 1, 0, api.OK)
	has(t, remap.New(), remap.Record{From: -1}) // no two tables have one list
}

func TestExample(t *testing.T) {
	x := remap.New()
	born(t, x, 4, 1, 3, api.OK)
	gone(t, x, 4, 9, 2, api.OK)
	born(t, x, 6, 1, 9, api.OK)
	owner(t, x, 1, 8, 4)
	owner(t, x, 1, 9, 6)
}

// TestSpans: a tid is one's from behind the event at From on, and no longer behind that at Till.
func TestSpans(t *testing.T) {
	x := remap.New()
	born(t, x, 2, 255, 5, api.OK)
	for _, at := range []int{math.MinInt, -2, -1, 0, 4} {
		nobodys(t, x, 255, at)
	}
	for _, at := range []int{5, 6, 7, 8, math.MaxInt} {
		owner(t, x, 255, at, 2)
	}
	gone(t, x, 2, 8, 1, api.OK)
	for _, at := range []int{-1, 4, 8, 9, math.MaxInt} {
		nobodys(t, x, 255, at)
	}
	for _, at := range []int{5, 6, 7} {
		owner(t, x, 255, at, 2)
	}
	has(t, x, remap.Record{From: -1}, remap.Record{G: 2, Tid: 255, From: 5, Gone: true, Till: 8, Cut: 1})
}

// TestAnEmptySpan: who goes at the place of its birth never had its tid.
func TestAnEmptySpan(t *testing.T) {
	x := remap.New()
	born(t, x, 1, 1, 3, api.OK)
	gone(t, x, 1, 3, 0, api.OK)
	for at := -1; at < 6; at++ {
		nobodys(t, x, 1, at)
	}
	born(t, x, 2, 1, 2, api.ErrState)
	born(t, x, 2, 1, 3, api.OK)
	owner(t, x, 1, 3, 2)
	gone(t, x, 0, -1, 0, api.OK)
	nobodys(t, x, 0, -1)
	born(t, x, 3, 0, -1, api.OK)
	owner(t, x, 0, -1, 3)
	has(t, x, remap.Record{From: -1, Gone: true, Till: -1}, remap.Record{G: 1, Tid: 1, From: 3, Gone: true, Till: 3},
		remap.Record{G: 2, Tid: 1, From: 3}, remap.Record{G: 3, From: -1})
}

func TestBornArguments(t *testing.T) {
	x := remap.New()
	for _, g := range []int{math.MinInt, -2, -1} {
		born(t, x, g, 1, 0, api.ErrArg)
	}
	for _, tid := range noTids {
		born(t, x, 1, tid, 0, api.ErrArg)
		born(t, x, 0, tid, 0, api.ErrArg) // there is a record of 0, but the argument comes first
	}
	for _, at := range []int{math.MinInt, -3, -2} {
		born(t, x, 1, 1, at, api.ErrArg)
		born(t, x, 0, 0, at, api.ErrArg)
	}
	born(t, x, math.MaxInt, 255, math.MaxInt, api.OK)
	born(t, x, 1<<40, 254, -1, api.OK)
	has(t, x, remap.Record{From: -1}, remap.Record{G: 1 << 40, Tid: 254, From: -1}, remap.Record{G: math.MaxInt, Tid: 255, From: math.MaxInt})
}

func TestBornState(t *testing.T) {
	x := remap.New()
	born(t, x, 0, 1, 0, api.ErrState)
	born(t, x, 1, 0, 0, api.ErrState)
	born(t, x, 1, 1, 3, api.OK)
	for _, at := range []int{-1, 2, 3, 4, math.MaxInt} {
		born(t, x, 1, 2, at, api.ErrState)
		born(t, x, 2, 1, at, api.ErrState) // also ahead of the place where 1 has it: 1 is not gone
	}
	gone(t, x, 1, 7, 0, api.OK)
	born(t, x, 1, 2, 9, api.ErrState) // a goroutine has one record, gone or not
	for _, at := range []int{-1, 0, 2, 3, 6} {
		born(t, x, 2, 1, at, api.ErrState)
	}
	born(t, x, 2, 1, 7, api.OK)
	gone(t, x, 2, 12, 0, api.OK)
	born(t, x, 3, 1, 7, api.ErrState) // that 1 went in time is not enough
	born(t, x, 3, 1, 11, api.ErrState)
	born(t, x, 3, 1, math.MaxInt, api.OK)
}

func TestGoneArguments(t *testing.T) {
	x := remap.New()
	for _, g := range []int{0, 1, -1} {
		for _, at := range []int{math.MinInt, -3, -2} {
			gone(t, x, g, at, 0, api.ErrArg)
		}
		for _, cut := range []int{math.MinInt, -1, 1<<20 + 1, math.MaxInt} {
			gone(t, x, g, 0, cut, api.ErrArg)
		}
	}
	for _, g := range []int{math.MinInt, -1, 1, math.MaxInt} {
		gone(t, x, g, 0, 0, api.ErrNone)
	}
	for i, cut := range []int{0, 1, 1<<20 - 1, 1 << 20} {
		x := remap.New()
		at := []int{-1, 0, 9, math.MaxInt}[i]
		gone(t, x, 0, at, cut, api.OK)
		has(t, x, remap.Record{From: -1, Gone: true, Till: at, Cut: cut})
		gone(t, x, 0, at, -1, api.ErrArg)
		gone(t, x, 0, at, cut, api.ErrState)
	}
}

func TestGoneState(t *testing.T) {
	x := remap.New()
	born(t, x, 5, 3, 4, api.OK)
	for _, at := range []int{-1, 0, 3} {
		gone(t, x, 5, at, 1, api.ErrState)
	}
	gone(t, x, 5, 4, 0, api.OK)
	for _, at := range []int{-1, 4, 5, math.MaxInt} {
		gone(t, x, 5, at, 0, api.ErrState)
	}
	// One that went at place 0, with cut 0, is gone as any other one is.
	born(t, x, 6, 4, 0, api.OK)
	gone(t, x, 6, 0, 0, api.OK)
	gone(t, x, 6, 0, 0, api.ErrState)
	gone(t, x, 6, 8, 3, api.ErrState)
}

// TestAllIsByGoroutines, in whichever order they were born.
func TestAllIsByGoroutines(t *testing.T) {
	x := remap.New()
	var want []remap.Record
	for _, g := range []int{9, 3, 200, 1, 4, 7, 100} {
		born(t, x, g, g, g, api.OK)
		want = append(want, remap.Record{G: g, Tid: g, From: g})
	}
	gone(t, x, 4, 8, 2, api.OK)
	want[4] = remap.Record{G: 4, Tid: 4, From: 4, Gone: true, Till: 8, Cut: 2}
	want = append(want, remap.Record{From: -1})
	slices.SortFunc(want, func(a, b remap.Record) int { return a.G - b.G })
	has(t, x, want...)
	for _, g := range []int{-1, 2, 5, 8, 199, 201, math.MaxInt, math.MinInt} {
		if r, ok := x.Of(g); r != (remap.Record{}) || ok {
			t.Errorf("Of(%d): %v, %t", g, r, ok)
		}
	}
	for _, tid := range noTids {
		nobodys(t, x, tid, 0)
		nobodys(t, x, tid, -1)
	}
}

// TestAllIsNew: what is done to an answer, spare room too, is not done to the table, nor to another answer.
func TestAllIsNew(t *testing.T) {
	x := remap.New()
	for g := 1; g < 6; g++ {
		born(t, x, g, g, g, api.OK)
		before, kept := look(x), x.All()
		same := slices.Clone(kept)
		l := x.All()
		l = l[:cap(l)]
		for i := range l {
			l[i] = remap.Record{G: -7, Tid: -7, From: -7, Gone: true}
		}
		if look(x) != before || !slices.Equal(kept, same) {
			t.Errorf("%s, %v, not %s, %v", look(x), kept, before, same)
		}
	}
	kept := x.All()
	gone(t, x, 3, 9, 1, api.OK)
	born(t, x, 7, 3, 9, api.OK)
	if kept[3] != (remap.Record{G: 3, Tid: 3, From: 3}) || len(kept) != 6 {
		t.Errorf("%v", kept)
	}
}

func TestNilTable(t *testing.T) {
	var x *remap.Table
	for _, g := range []int{0, 1, math.MaxInt} {
		born(t, x, g, 0, -1, api.ErrState)
		born(t, x, g, 255, math.MaxInt, api.ErrState)
		born(t, x, g, 256, 0, api.ErrArg)
		born(t, x, g, 0, -2, api.ErrArg)
		born(t, x, -1-g, 0, 0, api.ErrArg)
	}
	for _, g := range []int{math.MinInt, -1, 0, 1, math.MaxInt} {
		gone(t, x, g, -1, 0, api.ErrState)
		gone(t, x, g, math.MaxInt, 1<<20, api.ErrState)
		gone(t, x, g, -2, 0, api.ErrArg)
		gone(t, x, g, 0, -1, api.ErrArg)
		gone(t, x, g, 0, 1<<20+1, api.ErrArg)
		if r, ok := x.Of(g); r != (remap.Record{}) || ok {
			t.Errorf("Of(%d): %v, %t", g, r, ok)
		}
		nobodys(t, x, 0, g)
		nobodys(t, x, g, -1)
	}
	if l := x.All(); len(l) != 0 {
		t.Errorf("All: %v", l)
	}
}

// TestNoTableOfNew: one that New did not make has no records, and does not panic.
func TestNoTableOfNew(t *testing.T) {
	var x remap.Table
	has(t, &x)
	gone(t, &x, 0, 0, 0, api.ErrNone)
	nobodys(t, &x, 0, 0)
	born(t, &x, 0, 0, 0, api.OK)
	has(t, &x, remap.Record{})
	gone(t, &x, 0, 0, 0, api.OK)
	has(t, &x, remap.Record{Gone: true})
}
