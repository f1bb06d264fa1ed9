package clock_test

import (
	"math"
	"slices"
	"testing"

	"staithe/api"
	"staithe/clock"
	"staithe/epoch"
)

var ints = []int{
	math.MinInt, math.MinInt32, -1 << 32, -256, -1, 0, 1, 2, 3, 254, 255, 256, 257,
	api.MaxClock - 1, api.MaxClock, api.MaxClock + 1, math.MaxInt32, 1 << 32, 1<<32 + 1, math.MaxInt,
}

func isTid(n int) bool    { return 0 <= n && n <= 255 }
func isNumber(n int) bool { return 0 <= n && n <= 1048576 }

func of(t *testing.T, l ...int) *clock.Clock {
	t.Helper()
	c, errno := clock.Of(l)
	if c == nil || errno != api.OK {
		t.Fatalf("Of(%v): %v", l, errno)
	}
	return c
}

// has asks a clock for its numbers in all ways: the list, and each tid's number and epoch.
func has(t *testing.T, what string, c *clock.Clock, want ...int) {
	t.Helper()
	if l := c.List(); !slices.Equal(l, want) {
		t.Errorf("%s: the list is %v, not %v", what, l, want)
	}
	for tid := range api.MaxTid {
		n := 0
		if tid < len(want) {
			n = want[tid]
		}
		if c.Get(tid) != n {
			t.Errorf("%s: %d has %d, not %d", what, tid, c.Get(tid), n)
		}
		e := epoch.None
		if n > 0 {
			e = epoch.Epoch(n + (tid+1)<<32)
		}
		if c.Epoch(tid) != e {
			t.Errorf("%s: %d is at %#x, not %#x", what, tid, uint64(c.Epoch(tid)), uint64(e))
		}
	}
}

func TestNew(t *testing.T) {
	if clock.New() == nil {
		t.Fatal("New is nil")
	}
	has(t, "New", clock.New())
	a, b := clock.New(), clock.New()
	a.Set(3, 1)
	has(t, "another one", b)
}

func TestOf(t *testing.T) {
	has(t, "nil", of(t))
	has(t, "ordinary", of(t, 3, 0, 2), 3, 0, 2)
	has(t, "noughts at the end", of(t, 3, 0, 2, 0, 0), 3, 0, 2)
	has(t, "noughts alone", of(t, 0, 0, 0))
	has(t, "a nought first", of(t, 0, 5), 0, 5)
	has(t, "the least and greatest", of(t, 1, api.MaxClock), 1, api.MaxClock)
	full := make([]int, api.MaxTid)
	has(t, "as many noughts as tids", of(t, full...))
	full[255] = 9
	has(t, "the last tid alone", of(t, full...), full...)
	for i := range full {
		full[i] = api.MaxClock - i
	}
	has(t, "full", of(t, full...), full...)
}

func TestOfWhatIsWrong(t *testing.T) {
	long := make([]int, api.MaxTid+1)
	wrong := make([]int, api.MaxTid+1)
	wrong[0] = -1
	last := make([]int, api.MaxTid)
	last[255] = api.MaxClock + 1
	for _, x := range []struct {
		l    []int
		want api.Errno
	}{
		{long, api.ErrLong}, {wrong, api.ErrLong}, {make([]int, 5000), api.ErrLong},
		{last, api.ErrArg}, {[]int{-1}, api.ErrArg}, {[]int{1, 2, api.MaxClock + 1, 3}, api.ErrArg},
		{[]int{1, math.MinInt}, api.ErrArg}, {[]int{math.MaxInt, 0}, api.ErrArg}, {[]int{1<<32 + 1}, api.ErrArg},
	} {
		if c, errno := clock.Of(x.l); c != nil || errno != x.want {
			t.Errorf("Of %d numbers: %v, not %v", len(x.l), errno, x.want)
		}
	}
}

func TestOfNeitherKeepsNorChangesItsList(t *testing.T) {
	room := []int{3, 0, 2, 0, 77, 78}
	l := room[:4]
	c := of(t, l...)
	c.Set(0, 9)
	c.Set(3, 9)
	c.Set(5, 9)
	if !slices.Equal(room, []int{3, 0, 2, 0, 77, 78}) {
		t.Errorf("handed in, now %v", room)
	}
	c = of(t, l...)
	room[0], room[2] = 50, 60
	has(t, "kept", c, 3, 0, 2)
}

func TestListIsNewMemory(t *testing.T) {
	c := of(t, 3, 0, 2)
	c.Set(6, 1)
	c.Set(6, 0)
	for _, d := range []*clock.Clock{c, c.Copy()} {
		l := d.List()
		l = l[:cap(l)]
		for i := range l {
			l[i] = 99
		}
		has(t, "behind a change of its list", d, 3, 0, 2)
		d.Set(4, 8)
		d.Set(4, 0)
		has(t, "and one of its own", d, 3, 0, 2)
	}
	if a, b := c.List(), c.List(); &a[0] == &b[0] {
		t.Error("two answers share memory")
	}
}

func TestGetOfAllNumbers(t *testing.T) {
	c := of(t, 4, 5, 6)
	for _, tid := range ints {
		want := 0
		if 0 <= tid && tid <= 2 {
			want = tid + 4
		}
		if c.Get(tid) != want {
			t.Errorf("Get(%d): %d", tid, c.Get(tid))
		}
	}
}

func TestSetOfAllNumbers(t *testing.T) {
	for _, tid := range ints {
		for _, n := range ints {
			c := of(t, 4, 5, 6)
			errno := c.Set(tid, n)
			if !isTid(tid) || !isNumber(n) {
				if errno != api.ErrArg {
					t.Errorf("Set(%d, %d): %v", tid, n, errno)
				}
				has(t, "behind an error", c, 4, 5, 6)
				continue
			}
			want := make([]int, api.MaxTid)
			copy(want, []int{4, 5, 6})
			want[tid] = n
			if errno != api.OK {
				t.Errorf("Set(%d, %d): %v", tid, n, errno)
			}
			has(t, "set", c, trimmed(want)...)
		}
	}
}

func trimmed(l []int) []int {
	for len(l) > 0 && l[len(l)-1] == 0 {
		l = l[:len(l)-1]
	}
	return l
}

func TestSetToNoughtShortensTheList(t *testing.T) {
	c := of(t, 0, 7, 0, 0, 2)
	c.Set(4, 0)
	has(t, "the last one", c, 0, 7)
	c.Set(9, 0)
	has(t, "one further on", c, 0, 7)
	c.Set(1, 0)
	has(t, "all", c)
	c.Set(2, 3)
	has(t, "again", c, 0, 0, 3)
}

func TestTick(t *testing.T) {
	c := clock.New()
	for n := 1; n <= 3; n++ {
		if errno := c.Tick(2, 3); errno != api.OK {
			t.Error(errno)
		}
		has(t, "ticked", c, 0, 0, n)
	}
	if errno := c.Tick(2, 3); errno != api.ErrFull {
		t.Errorf("at most: %v", errno)
	}
	if errno := c.Tick(2, 1); errno != api.ErrFull {
		t.Errorf("above most: %v", errno)
	}
	has(t, "full", c, 0, 0, 3)
	c.Set(255, api.MaxClock-1)
	if errno := c.Tick(255, api.MaxClock); errno != api.OK || c.Get(255) != api.MaxClock {
		t.Errorf("to the greatest clock: %d, %v", c.Get(255), errno)
	}
	if errno := c.Tick(255, api.MaxClock); errno != api.ErrFull || c.Get(255) != api.MaxClock {
		t.Errorf("at the greatest clock: %d, %v", c.Get(255), errno)
	}
}

func TestTickOfAllNumbers(t *testing.T) {
	for _, tid := range ints {
		for _, most := range ints {
			c := of(t, 1, 0, api.MaxClock)
			before := c.Get(tid)
			want, after := api.OK, before+1
			switch {
			case !isTid(tid) || most < 1 || !isNumber(most):
				want, after = api.ErrArg, before
			case before >= most:
				want, after = api.ErrFull, before
			}
			if errno := c.Tick(tid, most); errno != want || c.Get(tid) != after {
				t.Errorf("Tick(%d, %d): %v, %d", tid, most, errno, c.Get(tid))
			}
			if want != api.OK {
				has(t, "behind an error", c, 1, 0, api.MaxClock)
			}
		}
	}
}

func TestEpoch(t *testing.T) {
	c := of(t, 3, 0, api.MaxClock)
	c.Set(255, 1)
	for _, tid := range ints {
		want, _ := epoch.Pack(tid, c.Get(tid))
		if c.Get(tid) == 0 {
			want = epoch.None
		}
		if c.Epoch(tid) != want {
			t.Errorf("Epoch(%d): %d", tid, c.Epoch(tid))
		}
	}
	if e := c.Epoch(255); e.Tid() != 255 || e.Clock() != 1 {
		t.Errorf("the greatest tid: %d", e)
	}
}

func TestJoin(t *testing.T) {
	for _, x := range []struct {
		c, o, want []int
	}{
		{[]int{3, 0, 2}, []int{1, 4}, []int{3, 4, 2}},
		{[]int{1, 4}, []int{3, 0, 2}, []int{3, 4, 2}},
		{[]int{3, 4}, []int{3, 4}, []int{3, 4}},
		{[]int{3, 4}, []int{2, 4}, []int{3, 4}},
		{nil, []int{0, 0, 1}, []int{0, 0, 1}},
		{[]int{0, 0, 1}, nil, []int{0, 0, 1}},
		{nil, nil, nil},
		{[]int{5}, []int{1, 0, 0, 9}, []int{5, 0, 0, 9}},
	} {
		c, o := of(t, x.c...), of(t, x.o...)
		changed := !slices.Equal(x.c, x.want)
		if got := c.Join(o); got != changed {
			t.Errorf("%v joined with %v: %t", x.c, x.o, got)
		}
		has(t, "joined", c, x.want...)
		has(t, "what was joined", o, x.o...)
		if c.Join(o) {
			t.Errorf("%v joined with %v again has changed", x.c, x.o)
		}
		if !of(t, x.c...).Within(c) || !o.Within(c) {
			t.Errorf("%v or %v is not within %v", x.c, x.o, c.List())
		}
		if c.Join(c) {
			t.Errorf("%v joined with itself has changed", c.List())
		}
	}
}

func TestJoinKeepsNothingOfTheOther(t *testing.T) {
	c, o := clock.New(), of(t, 1, 2, 3)
	c.Join(o)
	c.Set(1, 9)
	has(t, "what was joined", o, 1, 2, 3)
	o.Set(2, 8)
	has(t, "joined", c, 1, 9, 3)
}

func TestWithin(t *testing.T) {
	for _, x := range []struct {
		c, o []int
		want bool
	}{
		{[]int{1, 4}, []int{3, 4, 2}, true},
		{[]int{3, 4, 2}, []int{1, 4}, false},
		{[]int{3, 0, 2}, []int{1, 4}, false},
		{[]int{1, 4}, []int{3, 0, 2}, false},
		{[]int{2, 2}, []int{2, 2}, true},
		{nil, []int{1}, true},
		{[]int{0, 1}, nil, false},
		{nil, nil, true},
		{[]int{1, 0, 0, 1}, []int{9, 9, 9}, false},
	} {
		if got := of(t, x.c...).Within(of(t, x.o...)); got != x.want {
			t.Errorf("%v within %v: %t", x.c, x.o, got)
		}
	}
}

func TestNilClock(t *testing.T) {
	var none *clock.Clock
	has(t, "nil", none)
	for _, tid := range ints {
		if none.Get(tid) != 0 || none.Epoch(tid) != epoch.None {
			t.Errorf("nil at %d: %d, %d", tid, none.Get(tid), none.Epoch(tid))
		}
		for _, n := range ints {
			set, tick := api.ErrState, api.ErrState
			if !isTid(tid) || !isNumber(n) {
				set = api.ErrArg
			}
			if !isTid(tid) || n < 1 || !isNumber(n) {
				tick = api.ErrArg
			}
			if errno := none.Set(tid, n); errno != set {
				t.Errorf("Set(%d, %d) of nil: %v", tid, n, errno)
			}
			if errno := none.Tick(tid, n); errno != tick {
				t.Errorf("Tick(%d, %d) of nil: %v", tid, n, errno)
			}
		}
	}
	one := of(t, 0, 1)
	if none.Join(one) || none.Join(nil) || one.Join(nil) {
		t.Error("Join with nil has changed one")
	}
	has(t, "joined with nil", one, 0, 1)
	if !none.Within(one) || !none.Within(nil) || one.Within(nil) || !clock.New().Within(nil) {
		t.Error("Within of nil")
	}
	c := none.Copy()
	if c == nil {
		t.Fatal("the copy of nil is nil")
	}
	if errno := c.Set(4, 2); errno != api.OK {
		t.Error(errno)
	}
	has(t, "the copy of nil", c, 0, 0, 0, 0, 2)
}
