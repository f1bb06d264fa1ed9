package clock_test

import (
	"runtime"
	"slices"
	"testing"

	"staithe/api"
	"staithe/clock"
)

// changes are ways to change a clock of 3, 0, 2: in place, longer, shorter.
var changes = []struct {
	name string
	do   func(*clock.Clock)
	want []int
}{
	{"Set in place", func(c *clock.Clock) { c.Set(1, 7) }, []int{3, 7, 2}},
	{"Set the first to 0", func(c *clock.Clock) { c.Set(0, 0) }, []int{0, 0, 2}},
	{"Set longer", func(c *clock.Clock) { c.Set(3, 7) }, []int{3, 0, 2, 7}},
	{"Set shorter", func(c *clock.Clock) { c.Set(2, 0) }, []int{3}},
	{"Tick in place", func(c *clock.Clock) { c.Tick(0, 9) }, []int{4, 0, 2}},
	{"Tick longer", func(c *clock.Clock) { c.Tick(4, 9) }, []int{3, 0, 2, 0, 1}},
	{"Join in place", func(c *clock.Clock) { o, _ := clock.Of([]int{1, 4}); c.Join(o) }, []int{3, 4, 2}},
	{"Join longer", func(c *clock.Clock) { o, _ := clock.Of([]int{4, 0, 0, 0, 6}); c.Join(o) }, []int{4, 0, 2, 0, 6}},
}

// grown is a clock of 3, 0, 2 that has been longer: room may be left behind its numbers, which copies must not both write.
func grown() *clock.Clock {
	c := clock.New()
	for tid, n := range []int{3, 0, 2, 1, 1} {
		c.Set(tid, n)
	}
	c.Set(4, 0)
	c.Set(3, 0)
	return c
}

func grownBySteps() *clock.Clock {
	c := clock.New()
	c.Set(0, 3)
	c.Set(2, 2)
	return c
}

func grownByJoin() *clock.Clock {
	c, _ := clock.Of([]int{3})
	o, _ := clock.Of([]int{1, 0, 2})
	c.Join(o)
	return c
}

func TestCopiesDoNotSeeOneAnother(t *testing.T) {
	for _, first := range []func() *clock.Clock{grown, grownBySteps, grownByJoin} {
		for _, x := range changes {
			for _, y := range changes {
				a := first()
				b := a.Copy()
				c := b.Copy()
				x.do(a)
				has(t, x.name+" of the first", a, x.want...)
				has(t, "its copy", b, 3, 0, 2)
				y.do(b)
				has(t, x.name+", "+y.name+": the first", a, x.want...)
				has(t, x.name+", "+y.name+": the copy", b, y.want...)
				has(t, x.name+", "+y.name+": the copy's copy", c, 3, 0, 2)
				x.do(c)
				has(t, "the copy behind all", b, y.want...)
				has(t, "the copy's copy behind all", c, x.want...)
			}
		}
	}
}

func TestCopyThatChangesFirst(t *testing.T) {
	for _, x := range changes {
		a := grown()
		b, c := a.Copy(), a.Copy()
		x.do(b)
		has(t, x.name+": the first", a, 3, 0, 2)
		has(t, x.name+": the other copy", c, 3, 0, 2)
		x.do(a)
		a.Set(0, 50)
		has(t, x.name+": the copy that changed", b, x.want...)
		has(t, x.name+": the other copy behind all", c, 3, 0, 2)
	}
}

func TestCopyOfNoughts(t *testing.T) {
	a := clock.New()
	b := a.Copy()
	a.Tick(0, 5)
	has(t, "the copy", b)
	b.Tick(1, 5)
	has(t, "the first", a, 1)
	has(t, "the copy behind all", b, 0, 1)
}

// A copy that shares takes the same little memory however many numbers there are.
func TestCopiesShareTheirNumbers(t *testing.T) {
	l := slices.Repeat([]int{5}, api.MaxTid)
	c, _ := clock.Of(l)
	const copies = 2000
	kept := make([]*clock.Clock, copies)
	var before, after runtime.MemStats
	runtime.ReadMemStats(&before)
	for i := range kept {
		kept[i] = c.Copy()
	}
	runtime.ReadMemStats(&after)
	if each := (after.TotalAlloc - before.TotalAlloc) / copies; each >= 1024 {
		t.Errorf("a copy of %d numbers takes %d bytes", api.MaxTid, each)
	}
	has(t, "the last copy", kept[copies-1], l...)
}

// A change must not leave a clock sharing what its new copies then see change.
func TestCopiesBetweenChanges(t *testing.T) {
	c := clock.New()
	var kept []*clock.Clock
	var want [][]int
	numbers := make([]int, api.MaxTid)
	for step := range 600 {
		tid := step * 7 % 40
		if step%5 == 4 {
			c.Set(tid, 0)
			numbers[tid] = 0
		} else {
			c.Tick(tid, api.MaxClock)
			numbers[tid]++
		}
		kept = append(kept, c.Copy())
		want = append(want, slices.Clone(trimmed(numbers)))
	}
	for i, k := range kept {
		if !slices.Equal(k.List(), want[i]) {
			t.Fatalf("the copy behind step %d: %v, not %v", i, k.List(), want[i])
		}
	}
}
