package cell_test

import (
	"fmt"
	"math"
	"math/rand"
	"slices"
	"testing"

	"staithe/api"
	"staithe/cell"
	"staithe/clock"
	"staithe/epoch"
)

// noEpochs are no tid's clock: None, Tail, and what is no epoch.
var noEpochs = []epoch.Epoch{epoch.None, epoch.Tail, 1, 1 << 32, 1<<32 + 1<<20 + 1, 257<<32 + 1, epoch.Tail - 1, 1 << 63}

func at(tid, n int) epoch.Epoch {
	e, errno := epoch.Pack(tid, n)
	if errno != api.OK {
		panic(errno)
	}
	return e
}

func of(l ...int) *clock.Clock {
	c, errno := clock.Of(l)
	if errno != api.OK {
		panic(errno)
	}
	return c
}

// look is all that can be asked of a cell.
func look(x *cell.Cell) string {
	return fmt.Sprint(x.Last(), x.Reads(), x.Tailed(), x.Wide())
}

// is has a cell have this last write, these reads, and whether there is one that nobody sees.
func is(t *testing.T, x *cell.Cell, last epoch.Epoch, tailed bool, reads ...epoch.Epoch) {
	t.Helper()
	if x.Last() != last || x.Tailed() != tailed || !slices.Equal(x.Reads(), reads) || x.Wide() != (len(reads) > 1) {
		t.Errorf("%s; not %v, %v, %t", look(x), last, reads, tailed)
	}
}

func reads(t *testing.T, x *cell.Cell, e epoch.Epoch, c *clock.Clock, want int) {
	t.Helper()
	if got, errno := x.Read(e, c); got != want || errno != api.OK {
		t.Errorf("Read by %d at %d: %d, %v, not %d", e.Tid(), e.Clock(), got, errno, want)
	}
}

func writes(t *testing.T, x *cell.Cell, e epoch.Epoch, c *clock.Clock, want int) {
	t.Helper()
	if got, errno := x.Write(e, c); got != want || errno != api.OK {
		t.Errorf("Write by %d at %d: %d, %v, not %d", e.Tid(), e.Clock(), got, errno, want)
	}
}

func TestConstants(t *testing.T) {
	if cell.None != 0 || cell.Wrote != 1 || cell.Read != 2 {
		t.Errorf("%d, %d, %d", cell.None, cell.Wrote, cell.Read)
	}
}

func TestNew(t *testing.T) {
	x := cell.New()
	is(t, x, epoch.None, false)
	reads(t, x, at(0, 1), nil, cell.None)
	x = cell.New()
	writes(t, x, at(255, 1<<20), nil, cell.None)
	is(t, x, at(255, 1<<20), false)
}

func TestExample(t *testing.T) {
	x := cell.New()
	writes(t, x, at(0, 1), of(1), cell.None)
	reads(t, x, at(1, 1), of(0, 1), cell.Wrote)
	x = cell.New()
	writes(t, x, at(0, 1), of(1), cell.None)
	reads(t, x, at(1, 1), of(1, 1), cell.None)
}

// TestReadsThatAreKept: of each tid the last one, and none that a later one knows.
func TestReadsThatAreKept(t *testing.T) {
	x := cell.New()
	reads(t, x, at(5, 2), of(), cell.None)
	is(t, x, epoch.None, false, at(5, 2))
	reads(t, x, at(3, 4), of(0, 0, 0, 4), cell.None)
	is(t, x, epoch.None, false, at(3, 4), at(5, 2))
	reads(t, x, at(9, 1), of(), cell.None)
	reads(t, x, at(5, 7), of(0, 0, 0, 3), cell.None) // knows 3 up to 3 only
	is(t, x, epoch.None, false, at(3, 4), at(5, 7), at(9, 1))
	reads(t, x, at(4, 1), of(0, 0, 0, 4, 1, 7), cell.None)
	is(t, x, epoch.None, false, at(4, 1), at(9, 1))
	reads(t, x, at(4, 1), of(), cell.None)
	is(t, x, epoch.None, false, at(4, 1), at(9, 1))
	reads(t, x, at(0, 1), of(0, 0, 0, 0, 1, 0, 0, 0, 0, 1), cell.None)
	is(t, x, epoch.None, false, at(0, 1))
}

// TestOneTidIsNoRaceWithItself: whatever its clock says.
func TestOneTidIsNoRaceWithItself(t *testing.T) {
	x := cell.New()
	writes(t, x, at(2, 9), of(), cell.None)
	writes(t, x, at(2, 3), of(), cell.None)
	reads(t, x, at(2, 1), of(), cell.None)
	writes(t, x, at(2, 1), of(), cell.None)
	is(t, x, at(2, 1), false)
}

func TestAWriteForgetsReads(t *testing.T) {
	x := cell.New()
	reads(t, x, at(1, 1), of(0, 1), cell.None)
	reads(t, x, at(2, 1), of(0, 0, 1), cell.None)
	writes(t, x, at(0, 1), of(1, 1), cell.Read)
	is(t, x, at(0, 1), false)
	reads(t, x, at(1, 2), of(1, 2), cell.None)
	x.Retire(1, 1)
	is(t, x, at(0, 1), true)
	writes(t, x, at(0, 2), of(2, 9), cell.Read) // nobody sees it, whatever a clock says
	is(t, x, at(0, 2), false)
	writes(t, x, at(0, 3), of(3), cell.None)
}

// TestTheLastWriteIsToldFirst: where a write is a race with both.
func TestTheLastWriteIsToldFirst(t *testing.T) {
	x := cell.New()
	writes(t, x, at(0, 1), of(1), cell.None)
	reads(t, x, at(1, 1), of(1, 1), cell.None)
	writes(t, x, at(2, 1), of(0, 1, 1), cell.Wrote)
	x = cell.New()
	writes(t, x, at(0, 1), of(1), cell.None)
	reads(t, x, at(1, 1), of(1, 1), cell.None)
	writes(t, x, at(2, 1), of(0, 0, 1), cell.Wrote)
	x = cell.New()
	writes(t, x, at(0, 1), of(1), cell.None)
	reads(t, x, at(1, 1), of(1, 1), cell.None)
	writes(t, x, at(2, 1), of(1, 0, 1), cell.Read)
}

// TestARaceIsKeptToo: an access that raced is remembered as any other.
func TestARaceIsKeptToo(t *testing.T) {
	x := cell.New()
	writes(t, x, at(0, 1), of(1), cell.None)
	reads(t, x, at(1, 1), of(0, 1), cell.Wrote)
	is(t, x, at(0, 1), false, at(1, 1))
	reads(t, x, at(1, 1), of(0, 1), cell.Wrote)
	writes(t, x, at(2, 1), of(0, 1, 1), cell.Wrote)
	is(t, x, at(2, 1), false)
}

func TestRetire(t *testing.T) {
	for _, c := range []struct {
		cut         int
		last        epoch.Epoch
		race, tails int
	}{{0, epoch.Tail, cell.Wrote, 1}, {4, epoch.Tail, cell.Wrote, 1}, {5, epoch.None, cell.None, 0}, {6, epoch.None, cell.None, 0}, {1 << 20, epoch.None, cell.None, 0}} {
		x := cell.New()
		writes(t, x, at(3, 5), of(), cell.None)
		if errno := x.Retire(2, c.cut); errno != api.OK || x.Last() != at(3, 5) {
			t.Errorf("Retire of another one: %v, %v", errno, x.Last())
		}
		if errno := x.Retire(3, c.cut); errno != api.OK {
			t.Error(errno)
		}
		is(t, x, c.last, false)
		x.Retire(3, 1<<20)
		is(t, x, c.last, false)
		reads(t, x, at(3, 9), of(9, 9, 9, 9), c.race) // the tid is another one's now
		is(t, x, c.last, false, at(3, 9))

		x = cell.New()
		reads(t, x, at(3, 5), of(), cell.None)
		reads(t, x, at(6, 1), of(), cell.None)
		if errno := x.Retire(3, c.cut); errno != api.OK {
			t.Error(errno)
		}
		is(t, x, epoch.None, c.tails == 1, at(6, 1))
		writes(t, x, at(6, 2), of(9, 9, 9, 9), c.tails*cell.Read)
	}
}

// TestTailedStays: until a write, whoever is retired then, whoever reads.
func TestTailedStays(t *testing.T) {
	x := cell.New()
	reads(t, x, at(3, 5), of(), cell.None)
	reads(t, x, at(4, 5), of(), cell.None)
	x.Retire(3, 4)
	x.Retire(4, 5)
	is(t, x, epoch.None, true)
	reads(t, x, at(3, 1), of(9, 9, 9, 9, 9), cell.None)
	x.Retire(3, 1<<20)
	is(t, x, epoch.None, true)
	writes(t, x, at(3, 2), of(), cell.Read)
	is(t, x, at(3, 2), false)
}

// TestWrongArguments: nothing changes, and of a nil cell the argument is told first.
func TestWrongArguments(t *testing.T) {
	x := cell.New()
	x.Write(at(1, 2), of(0, 2))
	x.Read(at(2, 2), of(0, 2, 2))
	x.Read(at(3, 2), of(0, 2, 0, 2))
	x.Retire(3, 1)
	before := look(x)
	for _, y := range []*cell.Cell{x, nil} {
		for _, e := range noEpochs {
			if n, errno := y.Read(e, of(9, 9, 9, 9)); n != cell.None || errno != api.ErrArg {
				t.Errorf("Read(%#x): %d, %v", uint64(e), n, errno)
			}
			if n, errno := y.Write(e, of(9, 9, 9, 9)); n != cell.None || errno != api.ErrArg {
				t.Errorf("Write(%#x): %d, %v", uint64(e), n, errno)
			}
		}
		for _, tid := range []int{math.MinInt, -1, 256, 257, math.MaxInt} {
			for _, cut := range []int{math.MinInt, -1, 0, 1, 1 << 20, 1<<20 + 1, math.MaxInt} {
				if errno := y.Retire(tid, cut); errno != api.ErrArg {
					t.Errorf("Retire(%d, %d): %v", tid, cut, errno)
				}
			}
		}
		for _, tid := range []int{0, 1, 2, 255} {
			for _, cut := range []int{math.MinInt, -1, 1<<20 + 1, math.MaxInt} {
				if errno := y.Retire(tid, cut); errno != api.ErrArg {
					t.Errorf("Retire(%d, %d): %v", tid, cut, errno)
				}
			}
		}
	}
	if look(x) != before {
		t.Errorf("%s, not %s", look(x), before)
	}
	for _, tid := range []int{0, 255} {
		for _, cut := range []int{0, 1 << 20} {
			if errno := x.Retire(tid, cut); errno != api.OK || look(x) != before {
				t.Errorf("Retire(%d, %d): %v, %s", tid, cut, errno, look(x))
			}
		}
	}
}

func TestNilCell(t *testing.T) {
	var x *cell.Cell
	if n, errno := x.Read(at(1, 1), of(1)); n != cell.None || errno != api.ErrState {
		t.Errorf("Read: %d, %v", n, errno)
	}
	if n, errno := x.Write(at(1, 1), nil); n != cell.None || errno != api.ErrState {
		t.Errorf("Write: %d, %v", n, errno)
	}
	if errno := x.Retire(0, 0); errno != api.ErrState {
		t.Errorf("Retire: %v", errno)
	}
	is(t, x, epoch.None, false)
}

// TestNothingIsShared: clocks that are handed in are neither changed nor kept, and answers are new memory, spare room too.
func TestNothingIsShared(t *testing.T) {
	x := cell.New()
	c := of(3, 1)
	x.Write(at(0, 3), c)
	x.Read(at(1, 1), c)
	x.Read(at(2, 1), c)
	if !slices.Equal(c.List(), []int{3, 1}) {
		t.Errorf("the clock is %v", c.List())
	}
	before := look(x)
	c.Set(0, 0)
	c.Set(2, 9)
	l := x.Reads()
	l = l[:cap(l)]
	for i := range l {
		l[i] = epoch.Tail
	}
	if look(x) != before {
		t.Errorf("%s, not %s", look(x), before)
	}
	kept := x.Reads()
	x.Read(at(1, 2), of(3, 2, 1))
	if want := []epoch.Epoch{at(2, 1)}; len(kept) != 1 || !slices.Equal(kept, want) {
		t.Errorf("%v, not %v", kept, want)
	}
}

// plain is a cell told word by word: epochs as tids and clocks, reads in a map.
type plain struct {
	last   [2]int // its tid and clock; {-1, 0} is none, {-1, 1} one that nobody sees
	reads  map[int]int
	tailed bool
}

func known(o [2]int, tid int, c []int) bool {
	return o == [2]int{-1, 0} || o[0] == tid || o[0] >= 0 && o[0] < len(c) && o[1] <= c[o[0]]
}

func (p *plain) read(tid, n int, c []int) int {
	race := cell.None
	if !known(p.last, tid, c) {
		race = cell.Wrote
	}
	for k, m := range p.reads {
		if known([2]int{k, m}, tid, c) {
			delete(p.reads, k)
		}
	}
	p.reads[tid] = n
	return race
}

func (p *plain) write(tid, n int, c []int) int {
	race := cell.None
	for k, m := range p.reads {
		if !known([2]int{k, m}, tid, c) {
			race = cell.Read
		}
	}
	if p.tailed {
		race = cell.Read
	}
	if !known(p.last, tid, c) {
		race = cell.Wrote
	}
	*p = plain{last: [2]int{tid, n}, reads: map[int]int{}}
	return race
}

func (p *plain) retire(tid, cut int) {
	if p.last[0] == tid && p.last[1] <= cut {
		p.last = [2]int{-1, 0}
	} else if p.last[0] == tid {
		p.last = [2]int{-1, 1}
	}
	if n, ok := p.reads[tid]; ok {
		p.tailed = p.tailed || n > cut
		delete(p.reads, tid)
	}
}

// beside asks both for all there is.
func (p *plain) beside(t *testing.T, x *cell.Cell) {
	t.Helper()
	last := []epoch.Epoch{epoch.None, epoch.Tail}[max(0, min(1, p.last[1]))]
	if p.last[0] >= 0 {
		last = at(p.last[0], p.last[1])
	}
	var l []epoch.Epoch
	for tid := range 256 {
		if n, ok := p.reads[tid]; ok {
			l = append(l, at(tid, n))
		}
	}
	is(t, x, last, p.tailed, l...)
}

// TestLongDrawnPaths: any accesses, also such that no run has, against the plain cell.
func TestLongDrawnPaths(t *testing.T) {
	r := rand.New(rand.NewSource(18))
	told := map[string]int{}
	for range 400 {
		x, p := cell.New(), &plain{last: [2]int{-1, 0}, reads: map[int]int{}}
		span := 1 + r.Intn(6)
		step := []int{1, 51}[r.Intn(2)] // with tids far from one another, too: up to 255
		for range 60 {
			tid, n := r.Intn(span)*step, 1+r.Intn(3)
			c := make([]int, 256)
			for i := range span {
				c[i*step] = r.Intn(4)
			}
			switch k := r.Intn(10); {
			case k < 5:
				want := p.read(tid, n, c)
				reads(t, x, at(tid, n), of(c...), want)
				told[fmt.Sprint("read ", want)]++
			case k < 7:
				want := p.write(tid, n, c)
				writes(t, x, at(tid, n), of(c...), want)
				told[fmt.Sprint("write ", want)]++
			default:
				cut := r.Intn(4)
				p.retire(tid, cut)
				if errno := x.Retire(tid, cut); errno != api.OK {
					t.Errorf("Retire(%d, %d): %v", tid, cut, errno)
				}
			}
			p.beside(t, x)
			if t.Failed() {
				return
			}
			told[fmt.Sprintf("tail %t, tailed %t, wide %t", x.Last() == epoch.Tail, x.Tailed(), x.Wide())]++
		}
	}
	if len(told) < 5+8 {
		t.Errorf("the paths reach too little: %v", told)
	}
}
