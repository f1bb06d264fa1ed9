package report_test

import (
	"fmt"
	"math"
	"math/rand"
	"slices"
	"testing"

	"staithe/api"
	"staithe/cell"
	"staithe/clock"
	"staithe/epoch"
	"staithe/report"
)

// noEpochs are no tid's clock: None, Tail, and what is no epoch.
var noEpochs = []epoch.Epoch{epoch.None, epoch.Tail, 1, 1 << 32, 1<<32 + 1<<20 + 1, 257<<32 + 1, epoch.Tail - 1, 1 << 63}

var noCells = []int{math.MinInt, -8, -1, 8, 9, 256, math.MaxInt}

func at(tid, n int) epoch.Epoch {
	e, errno := epoch.Pack(tid, n)
	if errno != api.OK {
		panic(errno)
	}
	return e
}

func of(l ...int) *clock.Clock {
	c, errno := clock.Of(l)
	if errno != api.OK {
		panic(errno)
	}
	return c
}

// look is all that can be asked of a report.
func look(r *report.Report) string {
	s := fmt.Sprint(r.Races())
	for i := range api.Cells {
		x := r.Cell(i)
		first, ok := r.First(i)
		s += fmt.Sprint("; ", x.Last(), x.Reads(), x.Tailed(), first, ok)
	}
	return s
}

func put(t *testing.T, r *report.Report, a report.Access, e epoch.Epoch, c *clock.Clock, want bool) {
	t.Helper()
	if got, errno := r.Put(a, e, c); got != want || errno != api.OK {
		t.Errorf("Put(%v): %t, %v, not %t", a, got, errno, want)
	}
}

// told has a report have just these races.
func told(t *testing.T, r *report.Report, want ...report.Race) {
	t.Helper()
	if l := r.Races(); !slices.Equal(l, want) {
		t.Errorf("Races: %v, not %v", l, want)
	}
	for i := range api.Cells {
		at := slices.IndexFunc(want, func(x report.Race) bool { return x.Cell == i })
		race, ok := r.First(i)
		if ok != (at >= 0) || ok && race != want[at] || !ok && race != (report.Race{}) {
			t.Errorf("First(%d): %v, %t", i, race, ok)
		}
	}
}

func TestNew(t *testing.T) {
	r := report.New()
	told(t, r)
	for i := range api.Cells {
		x := r.Cell(i)
		if x == nil || x.Last() != epoch.None || len(x.Reads()) != 0 || x.Tailed() {
			t.Errorf("cell %d has an access", i)
		}
		if r.Cell(i) != x {
			t.Errorf("cell %d is not always the same one", i)
		}
		for j := range i {
			if r.Cell(j) == x {
				t.Errorf("cells %d and %d are one", j, i)
			}
		}
		if report.New().Cell(i) == x {
			t.Errorf("two reports have one cell %d", i)
		}
	}
}

func TestExample(t *testing.T) {
	r := report.New()
	put(t, r, report.Access{At: 5, G: 0, Cell: 3, Write: true}, at(0, 1), of(1), false)
	told(t, r)
	put(t, r, report.Access{At: 8, G: 1, Cell: 3, Write: true}, at(1, 1), of(0, 1), true)
	told(t, r, report.Race{Cell: 3, At: 8, G: 1, With: cell.Wrote, Write: true})
}

// TestWhatRaces: in each cell, two accesses that do not know of one another, and then that do.
func TestWhatRaces(t *testing.T) {
	for i := range api.Cells {
		for _, c := range []struct {
			first, second bool // whether they write
			with          int
		}{{true, true, cell.Wrote}, {true, false, cell.Wrote}, {false, true, cell.Read}, {false, false, cell.None}} {
			for _, knows := range []bool{false, true} {
				r := report.New()
				clock := of(0, 1)
				if knows {
					clock = of(7, 1)
				}
				put(t, r, report.Access{At: 2, G: 4, Cell: i, Write: c.first}, at(0, 7), of(7), false)
				race := c.with != cell.None && !knows
				put(t, r, report.Access{At: 6, G: 9, Cell: i, Write: c.second}, at(1, 1), clock, race)
				if race {
					told(t, r, report.Race{Cell: i, At: 6, G: 9, With: c.with, Write: c.second})
				} else {
					told(t, r)
				}
			}
		}
	}
}

// TestGoroutinesAndPlaces: they are told as they came, however great, and it is the tids that race.
func TestGoroutinesAndPlaces(t *testing.T) {
	for _, n := range []int{0, 1, 255, 256, math.MaxInt} {
		r := report.New()
		put(t, r, report.Access{At: n, G: n, Write: true}, at(3, 1), nil, false)
		put(t, r, report.Access{At: n, G: 5, Write: true}, at(3, 2), nil, false) // of one tid
		put(t, r, report.Access{At: n, G: n}, at(4, 1), nil, true)               // of another one
		told(t, r, report.Race{At: n, G: n, With: cell.Wrote})
	}
}

// TestTheFirstStays: later races of that cell are not told, but what they are is done in it.
func TestTheFirstStays(t *testing.T) {
	r := report.New()
	first := report.Race{Cell: 6, At: 4, G: 1, With: cell.Wrote}
	put(t, r, report.Access{At: 3, G: 0, Cell: 6, Write: true}, at(0, 1), nil, false)
	put(t, r, report.Access{At: 4, G: 1, Cell: 6}, at(1, 1), nil, true)
	put(t, r, report.Access{At: 4, G: 1, Cell: 6}, at(1, 1), nil, false)
	put(t, r, report.Access{At: 1, G: 2, Cell: 6, Write: true}, at(2, 5), nil, false) // also with a lesser place
	if x := r.Cell(6); x.Last() != at(2, 5) || len(x.Reads()) != 0 {
		t.Errorf("%v, %v", x.Last(), x.Reads())
	}
	put(t, r, report.Access{At: 6, G: 3, Cell: 6}, at(3, 1), nil, false)
	if x := r.Cell(6); x.Last() != at(2, 5) || !slices.Equal(x.Reads(), []epoch.Epoch{at(3, 1)}) {
		t.Errorf("%v, %v", x.Last(), x.Reads())
	}
	told(t, r, first)
	if errno := r.Retire(1, 0); errno != api.OK {
		t.Error(errno)
	}
	if errno := r.Retire(0, 1); errno != api.OK {
		t.Error(errno)
	}
	told(t, r, first)
}

// TestRacesAreByCells: not by when they were told, or where.
func TestRacesAreByCells(t *testing.T) {
	r := report.New()
	var want []report.Race
	for k, i := range []int{5, 0, 7, 2, 3, 6, 1, 4} {
		put(t, r, report.Access{At: 90 - k, G: k, Cell: i, Write: true}, at(0, 1), nil, false)
		put(t, r, report.Access{At: 95 - k, G: k, Cell: i, Write: true}, at(1, 1), nil, true)
		want = append(want, report.Race{Cell: i, At: 95 - k, G: k, With: cell.Wrote, Write: true})
		slices.SortFunc(want, func(a, b report.Race) int { return a.Cell - b.Cell })
		told(t, r, want...)
	}
}

func TestRetireInAllCells(t *testing.T) {
	r := report.New()
	for i := range api.Cells {
		put(t, r, report.Access{Cell: i, Write: i%2 == 0}, at(3, 1+i), nil, false)
		put(t, r, report.Access{Cell: i}, at(3, 1+i), nil, false)
	}
	before := look(r)
	if errno := r.Retire(2, 1<<20); errno != api.OK || look(r) != before {
		t.Errorf("%v, %s", errno, look(r))
	}
	if errno := r.Retire(3, 4); errno != api.OK {
		t.Error(errno)
	}
	for i := range api.Cells {
		last := epoch.None
		if i%2 == 0 && 1+i > 4 {
			last = epoch.Tail
		}
		if x := r.Cell(i); x.Last() != last || len(x.Reads()) != 0 || x.Tailed() != (1+i > 4) {
			t.Errorf("cell %d: %v, %v, %t", i, x.Last(), x.Reads(), x.Tailed())
		}
		put(t, r, report.Access{At: 9, Cell: i, Write: true}, at(0, 1), of(9, 9, 9, 9), 1+i > 4)
	}
	told(t, r, report.Race{Cell: 4, At: 9, With: cell.Wrote, Write: true}, report.Race{Cell: 5, At: 9, With: cell.Read, Write: true},
		report.Race{Cell: 6, At: 9, With: cell.Wrote, Write: true}, report.Race{Cell: 7, At: 9, With: cell.Read, Write: true})
}

// TestACellIsItself: what is done to it is done to the report's.
func TestACellIsItself(t *testing.T) {
	r := report.New()
	r.Cell(2).Write(at(0, 1), nil)
	put(t, r, report.Access{At: 1, G: 1, Cell: 2}, at(1, 1), nil, true)
	if r.Cell(2).Last() != at(0, 1) || len(r.Cell(2).Reads()) != 1 {
		t.Errorf("%v, %v", r.Cell(2).Last(), r.Cell(2).Reads())
	}
	r.Cell(4).Write(at(0, 1), nil)
	if race, _ := r.Cell(4).Write(at(1, 1), nil); race != cell.Wrote {
		t.Error(race)
	}
	told(t, r, report.Race{Cell: 2, At: 1, G: 1, With: cell.Wrote}) // only what was put is told
	for _, i := range noCells {
		if r.Cell(i) != nil {
			t.Errorf("there is a cell %d", i)
		}
		if race, ok := r.First(i); race != (report.Race{}) || ok {
			t.Errorf("First(%d): %v, %t", i, race, ok)
		}
	}
}

// wrong are accesses of which one thing is wrong, or more.
func wrong() []report.Access {
	var l []report.Access
	for _, i := range noCells {
		l = append(l, report.Access{Cell: i}, report.Access{Cell: i, Write: true}, report.Access{Cell: i, At: -1, G: -1})
	}
	for _, n := range []int{math.MinInt, -2, -1} {
		for i := range api.Cells {
			l = append(l, report.Access{At: n, Cell: i}, report.Access{G: n, Cell: i, Write: true}, report.Access{At: n, G: n, Cell: i})
		}
	}
	return l
}

// TestWrongArguments: nothing changes, and of a nil report the argument is told first.
func TestWrongArguments(t *testing.T) {
	r := report.New()
	for i := range api.Cells {
		put(t, r, report.Access{Cell: i, Write: true}, at(0, 1), nil, false)
		put(t, r, report.Access{Cell: i}, at(1, 1), of(1, 1), false)
	}
	put(t, r, report.Access{At: 1, Cell: 3}, at(2, 1), nil, true)
	before := look(r)
	for _, y := range []*report.Report{r, nil} {
		refused := func(a report.Access, e epoch.Epoch) {
			if race, errno := y.Put(a, e, of(0, 0, 9)); race || errno != api.ErrArg {
				t.Errorf("Put(%v, %#x): %t, %v", a, uint64(e), race, errno)
			}
		}
		for _, a := range wrong() {
			refused(a, at(2, 9))
			refused(a, epoch.None)
		}
		for _, e := range noEpochs {
			refused(report.Access{Cell: 4}, e)
			refused(report.Access{Cell: 4, Write: true}, e)
		}
		for _, tid := range []int{math.MinInt, -1, 256, math.MaxInt} {
			for _, cut := range []int{-1, 0, 1, 1 << 20, 1<<20 + 1} {
				if errno := y.Retire(tid, cut); errno != api.ErrArg {
					t.Errorf("Retire(%d, %d): %v", tid, cut, errno)
				}
			}
		}
		for _, tid := range []int{0, 1, 255} {
			for _, cut := range []int{math.MinInt, -1, 1<<20 + 1, math.MaxInt} {
				if errno := y.Retire(tid, cut); errno != api.ErrArg {
					t.Errorf("Retire(%d, %d): %v", tid, cut, errno)
				}
			}
		}
	}
	if look(r) != before {
		t.Errorf("%s, not %s", look(r), before)
	}
	for _, cut := range []int{0, 1 << 20} {
		if errno := r.Retire(255, cut); errno != api.OK || look(r) != before {
			t.Errorf("Retire(255, %d): %v, %s", cut, errno, look(r))
		}
	}
}

func TestNilReport(t *testing.T) {
	var r *report.Report
	for i := range api.Cells {
		for _, write := range []bool{false, true} {
			if race, errno := r.Put(report.Access{Cell: i, Write: write}, at(0, 1), of(1)); race || errno != api.ErrState {
				t.Errorf("Put: %t, %v", race, errno)
			}
		}
	}
	for _, i := range append([]int{0, 3, 7}, noCells...) {
		if race, ok := r.First(i); race != (report.Race{}) || ok {
			t.Errorf("First(%d): %v, %t", i, race, ok)
		}
		if r.Cell(i) != nil {
			t.Errorf("there is a cell %d", i)
		}
	}
	if errno := r.Retire(0, 0); errno != api.ErrState {
		t.Errorf("Retire: %v", errno)
	}
	if errno := r.Retire(255, 1<<20); errno != api.ErrState {
		t.Errorf("Retire: %v", errno)
	}
	if l := r.Races(); len(l) != 0 {
		t.Errorf("Races: %v", l)
	}
}

// TestNothingIsShared: clocks that are handed in are neither changed nor kept, and answers are new memory, spare room too.
func TestNothingIsShared(t *testing.T) {
	r := report.New()
	c := of(3, 1)
	for _, i := range []int{2, 5, 1} {
		put(t, r, report.Access{Cell: i, Write: true}, at(0, 3), c, false)
		put(t, r, report.Access{At: 1, Cell: i, Write: true}, at(2, 1), c, false) // it knows tid 0 up to 3
		put(t, r, report.Access{At: 2, Cell: i}, at(1, 1), c, true)
	}
	if !slices.Equal(c.List(), []int{3, 1}) {
		t.Errorf("the clock is %v", c.List())
	}
	before := look(r)
	c.Set(0, 0)
	c.Set(2, 9)
	kept := r.Races()
	l := r.Races()
	l = l[:cap(l)]
	for i := range l {
		l[i] = report.Race{Cell: 7, At: 7, G: 7, With: 7}
	}
	if look(r) != before {
		t.Errorf("%s, not %s", look(r), before)
	}
	put(t, r, report.Access{At: 3, Cell: 0, Write: true}, at(0, 1), nil, false)
	put(t, r, report.Access{At: 4, Cell: 0, Write: true}, at(1, 1), nil, true)
	if len(kept) != 3 || kept[0].Cell != 1 || len(r.Races()) != 4 {
		t.Errorf("%v, then %v", kept, r.Races())
	}
}

// alone is one cell, and what was told of it.
type alone struct {
	cell *cell.Cell
	race []report.Race
}

// do is the access in that cell: whether it is the first race of it.
func (x *alone) do(a report.Access, e epoch.Epoch, c *clock.Clock) bool {
	with := cell.None
	if a.Write {
		with, _ = x.cell.Write(e, c)
	} else {
		with, _ = x.cell.Read(e, c)
	}
	if with != cell.None {
		x.race = append(x.race, report.Race{Cell: a.Cell, At: a.At, G: a.G, With: with, Write: a.Write})
	}
	return with != cell.None && len(x.race) == 1
}

// beside asks both for all there is.
func beside(t *testing.T, r *report.Report, cells []*alone) {
	t.Helper()
	var want []report.Race
	for i, x := range cells {
		want = append(want, x.race[:min(1, len(x.race))]...)
		y := r.Cell(i)
		if y.Last() != x.cell.Last() || !slices.Equal(y.Reads(), x.cell.Reads()) || y.Tailed() != x.cell.Tailed() {
			t.Errorf("cell %d: %v, %v, %t", i, y.Last(), y.Reads(), y.Tailed())
		}
	}
	told(t, r, want...)
}

// TestCellsDoNotTouchOneAnother: drawn accesses of a report against cells that each stand alone.
func TestCellsDoNotTouchOneAnother(t *testing.T) {
	r := rand.New(rand.NewSource(19))
	counts := map[string]int{}
	for range 300 {
		x := report.New()
		var cells []*alone
		for range api.Cells {
			cells = append(cells, &alone{cell: cell.New()})
		}
		span := 1 + r.Intn(4)
		for range 100 {
			tid, n := r.Intn(span)*51, 1+r.Intn(3)
			c := make([]int, 256)
			for i := range span {
				c[i*51] = max(0, 3-r.Intn(5))
			}
			if r.Intn(8) == 0 {
				cut := r.Intn(4)
				if errno := x.Retire(tid, cut); errno != api.OK {
					t.Errorf("Retire(%d, %d): %v", tid, cut, errno)
				}
				for _, y := range cells {
					y.cell.Retire(tid, cut)
				}
				counts["retired"]++
			} else {
				a := report.Access{At: r.Intn(1000), G: r.Intn(9), Cell: r.Intn(api.Cells), Write: r.Intn(4) == 0}
				want := cells[a.Cell].do(a, at(tid, n), of(c...))
				put(t, x, a, at(tid, n), of(c...), want)
				counts[fmt.Sprintf("write %t, told %t", a.Write, want)]++
			}
			beside(t, x, cells)
			if t.Failed() {
				return
			}
		}
		counts[fmt.Sprintf("%d races", len(x.Races()))]++
	}
	if len(counts) < 5+3 {
		t.Errorf("the paths reach too little: %v", counts)
	}
}
