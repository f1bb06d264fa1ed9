package watch_test

import (
	"math"
	"math/rand"
	"slices"
	"testing"

	"staithe/api"
	"staithe/clock"
	"staithe/epoch"
	"staithe/watch"
)

// The limits, as the document says.
const (
	mostTids  = 256
	mostClock = 1 << 20
)

// A pair goes through goroutines with ids below ids, and tids below width; of nobody else there is ever one.
const (
	ids   = 7
	width = 8
)

var nobody = []int{math.MinInt, -1, 7, 1 << 40, math.MaxInt}

// one is what must be told of a goroutine: its tid, and of each tid what it knows.
type one struct {
	tid   int
	knows [width]int
}

func (o *one) own() int { return o.knows[o.tid] }

// pair is a watch beside a plain list of what it must hold: at a goroutine's id what must be told of it, nil of nobody.
type pair struct {
	w    *watch.Watch
	t, m int
	want []*one
}

func newPair(t *testing.T, tids, most int) *pair {
	t.Helper()
	w, errno := watch.New(tids, most)
	if w == nil || errno != api.OK {
		t.Fatalf("New(%d, %d): %v", tids, most, errno)
	}
	x := &pair{w: w, t: tids, m: most, want: make([]*one, ids)}
	x.want[0] = &one{}
	x.want[0].knows[0] = 1
	return x
}

// of is what must be told of a goroutine, nil of who has no tid.
func (x *pair) of(g int) *one {
	if g < 0 || g >= len(x.want) {
		return nil
	}
	return x.want[g]
}

// all are the ids of those that have a tid.
func (x *pair) all() []int {
	var l []int
	for g, o := range x.want {
		if o != nil {
			l = append(l, g)
		}
	}
	return l
}

// same tells whether a clock has these numbers, and none besides.
func same(c *clock.Clock, want [width]int) bool {
	var got [width]int
	n := copy(got[:], c.List())
	return c != nil && n == len(c.List()) && got == want
}

// holds asks all that can be asked without changing anything.
func (x *pair) holds(t *testing.T, what string) {
	all := x.all()
	if l := x.w.All(); !slices.Equal(l, all) {
		t.Fatalf("%s: All: %v, not %v", what, l, all)
	}
	if n := x.w.InUse(); n != len(all) {
		t.Fatalf("%s: InUse: %d, not %d", what, n, len(all))
	}
	if ok := x.w.Room(); ok != (len(all) < x.t) {
		t.Fatalf("%s: Room: %t, with %d of %d", what, ok, len(all), x.t)
	}
	for g, o := range x.want {
		if o != nil {
			x.holdsOne(t, what, g, o)
		} else {
			x.holdsNone(t, what, g)
		}
	}
	for _, g := range nobody {
		x.holdsNone(t, what, g)
	}
}

func (x *pair) holdsOne(t *testing.T, what string, g int, o *one) {
	if tid, ok := x.w.Tid(g); tid != o.tid || !ok {
		t.Fatalf("%s: Tid(%d): %d, %t, not %d", what, g, tid, ok, o.tid)
	}
	if c, ok := x.w.Clock(g); !same(c, o.knows) || !ok {
		t.Fatalf("%s: Clock(%d): %v, %t, not %v", what, g, c.List(), ok, o.knows)
	}
	if e := x.w.Epoch(g); uint64(e) != uint64(o.tid+1)<<32+uint64(o.own()) {
		t.Fatalf("%s: Epoch(%d): %d.%d, not %d.%d", what, g, e.Tid(), e.Clock(), o.tid, o.own())
	}
	if ok := x.w.Can(g); ok != (o.own() < x.m) {
		t.Fatalf("%s: Can(%d): %t, at %d of %d", what, g, ok, o.own(), x.m)
	}
}

func (x *pair) holdsNone(t *testing.T, what string, g int) {
	if tid, ok := x.w.Tid(g); tid != 0 || ok {
		t.Fatalf("%s: Tid(%d): %d, %t", what, g, tid, ok)
	}
	if c, ok := x.w.Clock(g); c != nil || ok {
		t.Fatalf("%s: Clock(%d): %v, %t", what, g, c, ok)
	}
	if e := x.w.Epoch(g); e != epoch.None {
		t.Fatalf("%s: Epoch(%d): %d", what, g, e)
	}
	if x.w.Can(g) {
		t.Fatalf("%s: Can(%d)", what, g)
	}
}

// free is the least tid that nobody has.
func (x *pair) free() int {
	for tid := 0; ; tid++ {
		if !slices.ContainsFunc(x.want, func(o *one) bool { return o != nil && o.tid == tid }) {
			return tid
		}
	}
}

func (x *pair) spawn(t *testing.T, parent, child int) api.Errno {
	t.Helper()
	tid, want := 0, api.OK
	switch {
	case x.of(parent) == nil:
		want = api.ErrNone
	case child < 0 || x.of(child) != nil:
		want = api.ErrArg
	case len(x.all()) == x.t:
		want = api.ErrFull
	default:
		tid = x.free()
		fresh := &one{tid: tid, knows: x.of(parent).knows}
		fresh.knows[tid] = 1
		x.want[child] = fresh
	}
	if n, errno := x.w.Spawn(parent, child); n != tid || errno != want {
		t.Fatalf("Spawn(%d, %d): %d, %v, not %d, %v", parent, child, n, errno, tid, want)
	}
	x.holds(t, "behind Spawn")
	return want
}

func (x *pair) know(t *testing.T, g int, c *clock.Clock) api.Errno {
	t.Helper()
	want := api.ErrNone
	if o := x.of(g); o != nil {
		want = api.OK
		for tid, n := range c.List() {
			o.knows[tid] = max(o.knows[tid], n)
		}
	}
	list := c.List()
	if errno := x.w.Know(g, c); errno != want {
		t.Fatalf("Know(%d): %v, not %v", g, errno, want)
	}
	if !slices.Equal(c.List(), list) {
		t.Fatalf("Know(%d): the clock is %v, not %v", g, c.List(), list)
	}
	x.holds(t, "behind Know")
	return want
}

func (x *pair) tell(t *testing.T, g int) (*clock.Clock, api.Errno) {
	t.Helper()
	c, errno := x.w.Tell(g)
	o := x.of(g)
	want := api.OK
	switch {
	case o == nil:
		want = api.ErrNone
	case o.own() >= x.m:
		want = api.ErrFull
	default:
		if !same(c, o.knows) {
			t.Fatalf("Tell(%d): %v, not %v", g, c.List(), o.knows)
		}
		o.knows[o.tid]++
	}
	if errno != want || want != api.OK && c != nil {
		t.Fatalf("Tell(%d): %v, %v, not %v", g, c.List(), errno, want)
	}
	x.holds(t, "behind Tell")
	return c, want
}

func (x *pair) retire(t *testing.T, g int) api.Errno {
	t.Helper()
	want := api.ErrNone
	if o := x.of(g); o != nil {
		want = api.OK
		x.want[g] = nil
		for _, other := range x.want {
			if other != nil {
				other.knows[o.tid] = 0
			}
		}
	}
	if errno := x.w.Retire(g); errno != want {
		t.Fatalf("Retire(%d): %v, not %v", g, errno, want)
	}
	x.holds(t, "behind Retire")
	return want
}

func of(t *testing.T, l ...int) *clock.Clock {
	t.Helper()
	c, errno := clock.Of(l)
	if errno != api.OK {
		t.Fatal(errno)
	}
	return c
}

func TestNew(t *testing.T) {
	for _, tids := range []int{1, 2, mostTids - 1, mostTids} {
		for _, most := range []int{1, 2, mostClock - 1, mostClock} {
			newPair(t, tids, most).holds(t, "New")
		}
	}
	for _, n := range []int{math.MinInt, -1, 0, mostClock + 1, math.MaxInt} {
		for _, args := range [][2]int{{n, 1}, {1, n}, {n, n}} {
			if w, errno := watch.New(args[0], args[1]); w != nil || errno != api.ErrArg {
				t.Errorf("New(%d, %d): %v, %v, not ErrArg", args[0], args[1], w, errno)
			}
		}
	}
	if w, errno := watch.New(mostTids+1, 1); w != nil || errno != api.ErrArg {
		t.Errorf("New(%d, 1): %v, %v, not ErrArg", mostTids+1, w, errno)
	}
}

func TestExample(t *testing.T) {
	w, _ := watch.New(2, 9)
	if tid, errno := w.Spawn(0, 5); tid != 1 || errno != api.OK {
		t.Errorf("Spawn(0, 5): %d, %v", tid, errno)
	}
	c, errno := w.Tell(5)
	if !slices.Equal(c.List(), []int{1, 1}) || errno != api.OK {
		t.Errorf("Tell(5): %v, %v", c.List(), errno)
	}
	if errno := w.Know(0, c); errno != api.OK {
		t.Errorf("Know(0): %v", errno)
	}
	if tid, errno := w.Spawn(0, 6); tid != 0 || errno != api.ErrFull {
		t.Errorf("Spawn(0, 6): %d, %v", tid, errno)
	}
	if errno := w.Retire(5); errno != api.OK {
		t.Errorf("Retire(5): %v", errno)
	}
	if tid, errno := w.Spawn(0, 6); tid != 1 || errno != api.OK {
		t.Errorf("Spawn(0, 6): %d, %v", tid, errno)
	}
}

// step is a call of a path.
type step struct {
	kind     string
	g, child int
}

// steps are all calls of three goroutines.
func steps() []step {
	var l []step
	for g := range 3 {
		l = append(l, step{"tell", g, 0}, step{"know", g, 0}, step{"retire", g, 0})
		for child := range 3 {
			l = append(l, step{"spawn", g, child})
		}
	}
	return l
}

// does goes a step; told is what was told last, by anybody, ahead of it and behind it.
func (x *pair) does(t *testing.T, s step, told *clock.Clock) *clock.Clock {
	switch s.kind {
	case "spawn":
		x.spawn(t, s.g, s.child)
	case "know":
		x.know(t, s.g, told)
	case "retire":
		x.retire(t, s.g)
	case "tell":
		if c, errno := x.tell(t, s.g); errno == api.OK {
			return c
		}
	}
	return told
}

// TestAllPathsOfFourCalls goes each way of three goroutines, with or without a child ahead of it, with few tids and low clocks.
func TestAllPathsOfFourCalls(t *testing.T) {
	const calls = 4
	l := steps()
	paths := 1
	for range calls {
		paths *= len(l)
	}
	for _, limits := range [][2]int{{2, 1}, {2, 3}, {3, 2}} {
		for path := range 2 * paths {
			x := newPair(t, limits[0], limits[1])
			told := clock.New()
			if path >= paths {
				x.spawn(t, 0, 1)
			}
			for i, rest := 0, path; i < calls; i, rest = i+1, rest/len(l) {
				told = x.does(t, l[rest%len(l)], told)
			}
		}
	}
}

// TestLongDrawnPaths also has clocks that nobody told, and ids of which there is nobody.
func TestLongDrawnPaths(t *testing.T) {
	draw := rand.New(rand.NewSource(16))
	var seen [4]map[api.Errno]int
	for i := range seen {
		seen[i] = map[api.Errno]int{}
	}
	for range 300 {
		x := newPair(t, 1+draw.Intn(5), 1+draw.Intn(6))
		told := []*clock.Clock{nil, clock.New()}
		for range 60 {
			g, other := draw.Intn(ids), draw.Intn(ids+1)-1
			if draw.Intn(20) == 0 {
				g = nobody[draw.Intn(len(nobody))]
			}
			switch kind := draw.Intn(10); {
			case kind < 3:
				seen[0][x.spawn(t, g, other)]++
			case kind < 6:
				c, errno := x.tell(t, g)
				seen[1][errno]++
				told = append(told, c)
			case kind < 9:
				c := told[draw.Intn(len(told))]
				if draw.Intn(10) == 0 {
					c = of(t, draw.Intn(8), draw.Intn(8), 0, draw.Intn(8))
				}
				seen[2][x.know(t, g, c)]++
			default:
				seen[3][x.retire(t, g)]++
			}
		}
	}
	for i, want := range [][]api.Errno{{api.OK, api.ErrNone, api.ErrArg, api.ErrFull}, {api.OK, api.ErrNone, api.ErrFull}, {api.OK, api.ErrNone}, {api.OK, api.ErrNone}} {
		for _, errno := range want {
			if seen[i][errno] < 50 {
				t.Errorf("too few calls of kind %d answered %v: %d", i, errno, seen[i][errno])
			}
		}
	}
}

// TestNobodyKnowsMore: as long as what is known was told (and what was told of a tid is forgotten when that is free), nobody
// knows more of another one than that one's own number, and no two have one tid.
func TestNobodyKnowsMore(t *testing.T) {
	draw := rand.New(rand.NewSource(163))
	again := 0 // how often a tid was given again
	for range 200 {
		w, _ := watch.New(4, 50)
		var told []*clock.Clock
		gone := map[int]int{}
		for next := 1; next < 80; next++ {
			all := w.All()
			g := all[draw.Intn(len(all))]
			switch draw.Intn(5) {
			case 0:
				tid, errno := w.Spawn(g, next)
				if errno == api.OK {
					again += gone[tid]
				}
			case 1, 2:
				if c, errno := w.Tell(g); errno == api.OK {
					told = append(told, c)
				}
			case 3:
				if len(told) > 0 {
					w.Know(g, told[draw.Intn(len(told))])
				}
			default:
				if tid, _ := w.Tid(g); len(all) > 1 && w.Retire(g) == api.OK {
					gone[tid] = 1
					for _, c := range told {
						c.Set(tid, 0)
					}
				}
			}
			knowNoMore(t, w)
		}
	}
	if again < 100 {
		t.Errorf("tids were given again %d times alone", again)
	}
}

func knowNoMore(t *testing.T, w *watch.Watch) {
	t.Helper()
	owner := [mostTids]int{}
	for _, g := range w.All() {
		tid, _ := w.Tid(g)
		if owner[tid]++; owner[tid] > 1 {
			t.Fatalf("the tid %d is given twice", tid)
		}
		for _, o := range w.All() {
			if c, _ := w.Clock(o); c.Get(tid) > w.Epoch(g).Clock() {
				t.Fatalf("%d knows %d of %d, which is at %d", o, c.Get(tid), g, w.Epoch(g).Clock())
			}
		}
	}
}

// TestSpawnDoesNotTell: the parent's number stays; the child knows all that the parent knows.
func TestSpawnDoesNotTell(t *testing.T) {
	x := newPair(t, 4, 9)
	x.spawn(t, 0, 1)
	x.tell(t, 1)
	x.know(t, 0, of(t, 3, 2))
	x.spawn(t, 0, 2)
	if a, b := x.w.Epoch(0).Clock(), x.w.Epoch(2).Clock(); a != 3 || b != 1 {
		t.Errorf("clocks: %d, %d", a, b)
	}
	if c, _ := x.w.Clock(2); !slices.Equal(c.List(), []int{3, 2, 1}) {
		t.Errorf("Clock(2): %v", c.List())
	}
}

// TestWhichErrorOfSpawn: nobody's spawning is told ahead of all, what is wrong with the child ahead of no room.
func TestWhichErrorOfSpawn(t *testing.T) {
	x := newPair(t, 1, 9)
	for _, parent := range append(nobody, 1) {
		for _, child := range []int{math.MinInt, -1, 0, 1} {
			if errno := x.spawn(t, parent, child); errno != api.ErrNone {
				t.Errorf("Spawn(%d, %d): %v, not ErrNone", parent, child, errno)
			}
		}
	}
	for _, child := range []int{math.MinInt, -1, 0} {
		if errno := x.spawn(t, 0, child); errno != api.ErrArg {
			t.Errorf("Spawn(0, %d): %v, not ErrArg", child, errno)
		}
	}
	if errno := x.spawn(t, 0, 1); errno != api.ErrFull {
		t.Errorf("Spawn(0, 1): %v, not ErrFull", errno)
	}
}

// TestAnyIdFrom0On: ids need not be dense, and one that was retired may be there again.
func TestAnyIdFrom0On(t *testing.T) {
	w, _ := watch.New(3, 9)
	for i, g := range []int{math.MaxInt, 1 << 40} {
		if tid, errno := w.Spawn(0, g); tid != i+1 || errno != api.OK {
			t.Errorf("Spawn(0, %d): %d, %v", g, tid, errno)
		}
	}
	if l := w.All(); !slices.Equal(l, []int{0, 1 << 40, math.MaxInt}) {
		t.Errorf("All: %v", l)
	}
	w.Tell(math.MaxInt)
	w.Retire(math.MaxInt)
	if tid, errno := w.Spawn(1<<40, math.MaxInt); tid != 1 || errno != api.OK || w.Epoch(math.MaxInt).Clock() != 1 {
		t.Errorf("Spawn again: %d, %v, %d", tid, errno, w.Epoch(math.MaxInt))
	}
}

// TestTheLeastFreeTid: with all tids in use, then with some freed, in another order than they are given again.
func TestTheLeastFreeTid(t *testing.T) {
	w, _ := watch.New(mostTids, 3)
	for g := 1; g < mostTids; g++ {
		if tid, errno := w.Spawn(g-1, g); tid != g || errno != api.OK {
			t.Fatalf("Spawn(%d, %d): %d, %v", g-1, g, tid, errno)
		}
	}
	if _, errno := w.Spawn(7, mostTids); errno != api.ErrFull || w.Room() || w.InUse() != mostTids {
		t.Errorf("Spawn: %v, with %d tids in use", errno, w.InUse())
	}
	freed := []int{255, 0, 17, 130, 16, 254}
	for _, g := range freed {
		w.Retire(g)
	}
	slices.Sort(freed)
	for i, want := range freed {
		if tid, errno := w.Spawn(7, 1000-i); tid != want || errno != api.OK {
			t.Errorf("Spawn: %d, %v, not %d", tid, errno, want)
		}
	}
	if w.Room() {
		t.Error("Room")
	}
}

// TestTellUpToMost: with the least and the greatest limit of clocks.
func TestTellUpToMost(t *testing.T) {
	x := newPair(t, 2, 1)
	if _, errno := x.tell(t, 0); errno != api.ErrFull {
		t.Errorf("Tell: %v, not ErrFull", errno)
	}
	x = newPair(t, 2, 4)
	for range 3 {
		if _, errno := x.tell(t, 0); errno != api.OK {
			t.Errorf("Tell: %v", errno)
		}
	}
	if _, errno := x.tell(t, 0); errno != api.ErrFull {
		t.Errorf("Tell: %v, not ErrFull", errno)
	}
	x.spawn(t, 0, 1) // it does not tell, so it may yet
	x = newPair(t, 2, mostClock)
	x.know(t, 0, of(t, mostClock-1))
	for _, want := range []api.Errno{api.OK, api.ErrFull} {
		if _, errno := x.tell(t, 0); errno != want {
			t.Errorf("Tell: %v, not %v", errno, want)
		}
	}
}

// TestKnowMoreThanMost: who has been told a number above M as its own cannot tell, as one at M cannot.
func TestKnowMoreThanMost(t *testing.T) {
	x := newPair(t, 2, 3)
	x.know(t, 0, of(t, 5))
	if _, errno := x.tell(t, 0); errno != api.ErrFull || x.w.Can(0) {
		t.Errorf("Tell: %v, not ErrFull", errno)
	}
}

// TestRetireAll: the first one may be retired too; then nobody is there who could spawn.
func TestRetireAll(t *testing.T) {
	x := newPair(t, 3, 9)
	x.spawn(t, 0, 1)
	x.retire(t, 0)
	if errno := x.retire(t, 0); errno != api.ErrNone {
		t.Errorf("Retire(0): %v, not ErrNone", errno)
	}
	x.spawn(t, 1, 4)
	x.retire(t, 1)
	x.retire(t, 4)
	if errno := x.spawn(t, 4, 5); errno != api.ErrNone {
		t.Errorf("Spawn(4, 5): %v, not ErrNone", errno)
	}
}

// TestNothingIsShared: neither what is done to a clock that was handed in, nor what is done to an answer, is seen.
func TestNothingIsShared(t *testing.T) {
	x := newPair(t, 3, 9)
	x.spawn(t, 0, 1)
	spoil := func(c *clock.Clock) {
		for tid := range 5 {
			c.Set(tid, 999)
		}
	}
	told, _ := x.tell(t, 1)
	kept, _ := x.w.Clock(1)
	list := kept.List()
	x.know(t, 0, told)
	spoil(told)
	x.holds(t, "behind other numbers of what was told, and known")
	c, _ := x.w.Clock(0)
	spoil(c)
	x.holds(t, "behind other numbers of an answer")
	x.tell(t, 1)
	x.retire(t, 0)
	if !slices.Equal(kept.List(), list) {
		t.Errorf("an answer is %v now, not %v", kept.List(), list)
	}
	ids := x.w.All()
	for i := range ids[:cap(ids)] {
		ids[:cap(ids)][i] = 6
	}
	x.holds(t, "behind other ids in All's list")
}

func TestNilWatch(t *testing.T) {
	x := &pair{}
	for _, g := range append(nobody, 0, 1) {
		for _, child := range append(nobody, 0, 1) {
			if errno := x.spawn(t, g, child); errno != api.ErrNone {
				t.Errorf("Spawn(%d, %d): %v", g, child, errno)
			}
		}
		x.know(t, g, of(t, 1))
		x.know(t, g, nil)
		x.tell(t, g)
		x.retire(t, g)
		x.holdsNone(t, "nil", g)
	}
}
