package query_test

import (
	"math"
	"reflect"
	"slices"
	"testing"

	"staithe/api"
	"staithe/epoch"
	"staithe/query"
	"staithe/remap"
	"staithe/stamp"
)

// noEpochs are no tid's clock: None, Tail, and what is no epoch.
var noEpochs = []epoch.Epoch{epoch.None, epoch.Tail, 1, 1 << 32, 1<<32 + 1<<20 + 1, 257<<32 + 1, epoch.Tail - 1, 1 << 63}

// at is the stamp of an event of a tid, by its list.
func at(tid int, l ...int) stamp.Stamp {
	e, errno := epoch.Pack(tid, l[tid])
	if errno != api.OK {
		panic(errno)
	}
	return stamp.Stamp{Epoch: e, Clock: l}
}

func read(g int) api.Event {
	return api.Event{Kind: api.EvRead, G: g, Chan: -1, Case: -1, Mate: -1}
}

func compact() api.Event {
	return api.Event{Kind: api.EvCompact, G: -1, Chan: -1, Case: -1, Value: -1, Mate: -1}
}

func before(t *testing.T, l query.Log, a, b int, want bool) {
	t.Helper()
	if is, errno := query.Before(l, a, b); is != want || errno != api.OK {
		t.Errorf("Before(%d, %d): %t, %v, not %t", a, b, is, errno, want)
	}
}

func known(t *testing.T, l query.Log, b, g, want int) {
	t.Helper()
	if n, errno := query.Known(l, b, g); n != want || errno != api.OK {
		t.Errorf("Known(%d, %d): %d, %v, not %d", b, g, n, errno, want)
	}
}

// refused has a question of two events answer an error.
func refused(t *testing.T, l query.Log, a, b int, want api.Errno) {
	t.Helper()
	if is, errno := query.Before(l, a, b); is || errno != want {
		t.Errorf("Before(%d, %d): %t, %v, not %v", a, b, is, errno, want)
	}
}

func unknown(t *testing.T, l query.Log, b, g int, want api.Errno) {
	t.Helper()
	if n, errno := query.Known(l, b, g); n != 0 || errno != want {
		t.Errorf("Known(%d, %d): %d, %v, not %v", b, g, n, errno, want)
	}
}

// example is the chapter's: goroutine 1 (tid 1) is retired behind place 9 with cut 3; goroutine 2 then has its tid.
func example() query.Log {
	l := query.Log{Records: []remap.Record{
		{G: 0, Tid: 0, From: -1},
		{G: 1, Tid: 1, From: 0, Gone: true, Till: 9, Cut: 3},
		{G: 2, Tid: 1, From: 10},
	}}
	put := func(e api.Event, s stamp.Stamp) {
		l.Events, l.Stamps = append(l.Events, e), append(l.Stamps, s)
	}
	put(read(0), at(0, 1))
	for n := 1; n < 5; n++ {
		put(read(1), at(1, 1, n)) // places 1 to 4
	}
	put(read(0), at(0, 2))
	put(read(0), at(0, 3, 2))
	put(read(0), at(0, 4, 3))
	put(read(0), at(0, 5, 3))
	put(compact(), stamp.Stamp{})
	put(read(0), at(0, 6))
	put(read(2), at(1, 6, 1))
	put(read(2), at(1, 6, 9))
	put(read(0), at(0, 7, 8))
	return l
}

func TestExample(t *testing.T) {
	l := example()
	for b := 10; b < 14; b++ {
		before(t, l, 3, b, true)
		before(t, l, 4, b, false)
		known(t, l, b, 1, 3)
	}
}

// TestOfTwoGoroutines: each event of the example against each other one.
func TestOfTwoGoroutines(t *testing.T) {
	l := example()
	zero, one, two := []int{0, 5, 6, 7, 8, 10, 13}, []int{1, 2, 3, 4}, []int{11, 12}
	for _, c := range []struct {
		of, to, counts []int // how many of the first ones are before each of the others
	}{
		{zero, one, []int{1, 1, 1, 1}},
		{one, zero, []int{0, 0, 2, 3, 3, 3, 3}},
		{zero, two, []int{6, 6}},
		{two, zero, []int{0, 0, 0, 0, 0, 0, 1}},
		{one, two, []int{3, 3}},
		{two, one, []int{0, 0, 0, 0}},
	} {
		for i, b := range c.to {
			for k, a := range c.of {
				before(t, l, a, b, k < c.counts[i])
			}
		}
	}
}

// TestOfOneGoroutine: its places tell, whatever its epochs and clocks are.
func TestOfOneGoroutine(t *testing.T) {
	l := query.Log{
		Events:  []api.Event{read(3), read(3), read(3)},
		Stamps:  []stamp.Stamp{at(1, 0, 9), at(0, 4, 2), at(2, 0, 0, 1)},
		Records: []remap.Record{{G: 3, Tid: 7, From: 5}},
	}
	for a := range 3 {
		for b := range 3 {
			before(t, l, a, b, a < b)
		}
	}
	l.Records[0] = remap.Record{G: 3, Tid: 7, From: -1, Gone: true, Till: 0, Cut: 1}
	before(t, l, 0, 2, true)
	before(t, l, 2, 0, false)
}

func TestRecord(t *testing.T) {
	l := query.Log{Records: []remap.Record{
		{G: 4, Tid: 1, From: 2}, {G: 0, From: -1}, {G: 4, Tid: 9, From: 5, Gone: true, Till: 6, Cut: 7}, {G: -3, Tid: -1}, {},
	}}
	for g, want := range map[int]int{4: 0, 0: 1, -3: 3} {
		if r, ok := query.Record(l, g); r != l.Records[want] || !ok {
			t.Errorf("Record(%d): %v, %t", g, r, ok)
		}
	}
	for _, g := range []int{math.MinInt, -1, 1, 5, math.MaxInt} {
		if r, ok := query.Record(l, g); r != (remap.Record{}) || ok {
			t.Errorf("Record(%d): %v, %t", g, r, ok)
		}
	}
	if r, ok := query.Record(query.Log{}, 0); r != (remap.Record{}) || ok {
		t.Errorf("Record: %v, %t", r, ok)
	}
}

// TestTheFirstRecordCounts, if a goroutine has two.
func TestTheFirstRecordCounts(t *testing.T) {
	l := query.Log{
		Events:  []api.Event{read(0), read(1), read(0)},
		Stamps:  []stamp.Stamp{at(0, 1), at(1, 1, 1), at(0, 1, 0, 5)},
		Records: []remap.Record{{From: -1}, {G: 1, Tid: 1, From: 0}, {G: 1, Tid: 2, From: 0}},
	}
	known(t, l, 2, 1, 0)
	before(t, l, 1, 2, false)
	l.Records[1], l.Records[2] = l.Records[2], l.Records[1]
	known(t, l, 2, 1, 5)
	before(t, l, 1, 2, true)
}

// TestKnown: of a record by its From and its Till, at their edges.
func TestKnown(t *testing.T) {
	l := query.Log{Records: []remap.Record{{From: -1}, {}}}
	for range 10 {
		l.Events, l.Stamps = append(l.Events, read(0)), append(l.Stamps, at(0, 1, 0, 6))
	}
	for _, c := range []struct {
		r    remap.Record
		want [10]int
	}{
		{remap.Record{G: 1, Tid: 2, From: -1}, [10]int{6, 6, 6, 6, 6, 6, 6, 6, 6, 6}},
		{remap.Record{G: 1, Tid: 2, From: 0}, [10]int{0, 6, 6, 6, 6, 6, 6, 6, 6, 6}},
		{remap.Record{G: 1, Tid: 2, From: 4}, [10]int{0, 0, 0, 0, 0, 6, 6, 6, 6, 6}},
		{remap.Record{G: 1, Tid: 2, From: 9}, [10]int{}},
		{remap.Record{G: 1, Tid: 2, From: math.MaxInt}, [10]int{}},
		{remap.Record{G: 1, Tid: 2, From: math.MinInt}, [10]int{6, 6, 6, 6, 6, 6, 6, 6, 6, 6}},
		{remap.Record{G: 1, Tid: 2, From: 2, Gone: true, Till: 5, Cut: 3}, [10]int{0, 0, 0, 6, 6, 6, 3, 3, 3, 3}},
		{remap.Record{G: 1, Tid: 2, From: 5, Gone: true, Till: 5, Cut: 3}, [10]int{0, 0, 0, 0, 0, 0, 3, 3, 3, 3}},
		{remap.Record{G: 1, Tid: 2, From: -1, Gone: true, Till: -1, Cut: 8}, [10]int{8, 8, 8, 8, 8, 8, 8, 8, 8, 8}},
		{remap.Record{G: 1, Tid: 2, From: -1, Gone: true, Till: 9, Cut: 8}, [10]int{6, 6, 6, 6, 6, 6, 6, 6, 6, 6}},
		{remap.Record{G: 1, Tid: 2, From: 2, Gone: true, Till: 5}, [10]int{0, 0, 0, 6, 6, 6}},
		{remap.Record{G: 1, Tid: 2, From: 7, Gone: true, Till: 3, Cut: 4}, [10]int{0, 0, 0, 0, 4, 4, 4, 4, 4, 4}},        // the cut comes first
		{remap.Record{G: 1, Tid: 2, From: -1, Till: 3, Cut: 4}, [10]int{6, 6, 6, 6, 6, 6, 6, 6, 6, 6}},                   // it is not gone
		{remap.Record{G: 1, Tid: 2, From: 3, Gone: true, Till: 3, Cut: -2}, [10]int{0, 0, 0, 0, -2, -2, -2, -2, -2, -2}}, // a cut is told as it is
	} {
		l.Records[1] = c.r
		for b, want := range c.want {
			known(t, l, b, 1, want)
		}
	}
}

// TestNumbersOfAStamp: behind its list there are noughts, and at what is no tid.
func TestNumbersOfAStamp(t *testing.T) {
	l := query.Log{Events: []api.Event{read(0)}, Stamps: []stamp.Stamp{at(0, 5, 0, 6)}}
	for tid, want := range map[int]int{0: 5, 1: 0, 2: 6, 3: 0, 255: 0, 256: 0, -1: 0, math.MinInt: 0, math.MaxInt: 0} {
		l.Records = []remap.Record{{From: -1}, {G: 9, Tid: tid, From: -1}}
		known(t, l, 0, 9, want)
	}
	l.Stamps[0].Clock = nil
	known(t, l, 0, 9, 0)
	known(t, l, 0, 0, 0) // of its own goroutine, too, the record and the stamp tell
}

// TestEdgesOfAnEpoch: an event is before another one that knows just its clock, or more, and no less.
func TestEdgesOfAnEpoch(t *testing.T) {
	for _, tid := range []int{0, 1, 255} {
		for _, n := range []int{1, 2, 1<<20 - 1, 1 << 20} {
			list, knows := make([]int, 256), make([]int, 257)
			list[tid] = n
			l := query.Log{
				Events:  []api.Event{read(1), read(7)},
				Stamps:  []stamp.Stamp{at(tid, list...), at(256-tid-1, slices.Repeat([]int{1}, 256)...)},
				Records: []remap.Record{{G: 1, Tid: tid, From: -1}, {G: 7, Tid: 3, From: -1}},
			}
			l.Stamps[1].Clock = knows
			for _, c := range []int{math.MinInt, -1, 0, 1, n - 1, n, n + 1, math.MaxInt} {
				knows[tid] = c
				before(t, l, 0, 1, c >= n)
				known(t, l, 1, 1, c)
			}
		}
	}
}

func TestWrongArguments(t *testing.T) {
	l := example()
	n := len(l.Events)
	for _, i := range []int{math.MinInt, -2, -1, n, n + 1, math.MaxInt} {
		refused(t, l, i, 0, api.ErrArg)
		refused(t, l, 0, i, api.ErrArg)
		refused(t, l, i, 9, api.ErrArg) // a Compact's place, but the argument comes first
		refused(t, l, 9, i, api.ErrArg)
		refused(t, l, i, i, api.ErrArg)
		unknown(t, l, i, 0, api.ErrArg)
		unknown(t, l, i, 77, api.ErrArg)
	}
	fewer, more, none := example(), example(), example()
	fewer.Stamps = fewer.Stamps[:n-1]
	more.Stamps = append(more.Stamps, at(0, 9))
	none.Stamps = nil
	for _, l := range []query.Log{fewer, more, none, {}, {Stamps: more.Stamps}, {Records: more.Records}} {
		for _, i := range []int{0, 1, 9, n - 1, n} {
			refused(t, l, i, i, api.ErrArg)
			refused(t, l, 0, i, api.ErrArg)
			unknown(t, l, i, 0, api.ErrArg)
			unknown(t, l, i, 77, api.ErrArg)
		}
	}
}

// cannot has an event be asked for nothing, neither of itself nor of others.
func cannot(t *testing.T, l query.Log, i int) {
	t.Helper()
	for j := range l.Events {
		refused(t, l, i, j, api.ErrNone)
		refused(t, l, j, i, api.ErrNone)
	}
	unknown(t, l, i, 0, api.ErrNone)
	unknown(t, l, i, 1, api.ErrNone)
}

func TestWhatCannotBeAskedFor(t *testing.T) {
	cannot(t, example(), 9)
	for i := range 14 {
		l := example()
		l.Events[i].Kind = api.EvCompact // whoever's it is
		cannot(t, l, i)
		l = example()
		l.Events[i].G = 77
		cannot(t, l, i)
		for _, e := range noEpochs {
			l = example()
			l.Stamps[i].Epoch = e
			cannot(t, l, i)
		}
	}
	l := example()
	l.Events[9].G = 0
	l.Stamps[9] = at(0, 6)
	cannot(t, l, 9)
	l = example()
	for _, g := range []int{math.MinInt, -1, 3, 77, math.MaxInt} {
		unknown(t, l, 0, g, api.ErrNone)
		unknown(t, l, 9, g, api.ErrNone)
	}
	l.Records = l.Records[1:]
	cannot(t, l, 5)
	unknown(t, l, 1, 0, api.ErrNone)
	before(t, l, 3, 11, true)
}

// TestOtherKindsCanBeAskedFor: nothing else of an event counts, be it right or not.
func TestOtherKindsCanBeAskedFor(t *testing.T) {
	for _, kind := range []int{math.MinInt, -1, 0, 1, 2, 3, 4, 5, 6, 7, 8, 9, 10, 11, 12, 14, math.MaxInt} {
		l := example()
		for i := range l.Events {
			if i != 9 {
				l.Events[i] = api.Event{Kind: kind, G: l.Events[i].G, Chan: 999, Mate: -7}
			}
		}
		before(t, l, 0, 1, true)
		before(t, l, 4, 10, false)
		known(t, l, 13, 2, 8)
	}
	// An event's goroutine may be any number that a record has.
	l := query.Log{
		Events:  []api.Event{read(-5), read(1 << 40)},
		Stamps:  []stamp.Stamp{at(1, 0, 1), at(0, 1, 1)},
		Records: []remap.Record{{G: 1 << 40, From: -1}, {G: -5, Tid: 1, From: -1}},
	}
	before(t, l, 0, 1, true)
	before(t, l, 1, 0, false)
	known(t, l, 1, -5, 1)
}

// TestALogStaysAsItIs, whatever is asked.
func TestALogStaysAsItIs(t *testing.T) {
	l, same := example(), example()
	for i := range 16 {
		for j := range 16 {
			query.Before(l, i-1, j-1)
			query.Known(l, i-1, j-1)
		}
		query.Record(l, i-1)
	}
	if !reflect.DeepEqual(l, same) {
		t.Errorf("%v", l)
	}
}
