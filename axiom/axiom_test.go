package axiom_test

import (
	"math"
	"slices"
	"testing"

	"staithe/api"
	"staithe/axiom"
)

// event is one whose fields are told in the order of api's, with the letters S for Send, K for OK.
func event(kind, g, channel, at, value, mate int, flags string) api.Event {
	return api.Event{Kind: kind, G: g, Chan: channel, Case: at, Value: value, Mate: mate, Send: flags == "S" || flags == "SK", OK: flags == "K" || flags == "SK"}
}

func spawn(g, mate int) api.Event            { return event(1, g, -1, -1, 0, mate, "") }
func makes(g, channel, size int) api.Event   { return event(2, g, channel, -1, size, -1, "") }
func send(g, channel, v, mate int) api.Event { return event(3, g, channel, -1, v, mate, "S") }
func recv(g, channel, v, mate int) api.Event { return event(4, g, channel, -1, v, mate, "K") }
func nothing(g, channel int) api.Event       { return event(4, g, channel, -1, 0, -1, "") }
func closes(g, channel int) api.Event        { return event(5, g, channel, -1, -1, -1, "") }
func waits(g, channel int) api.Event         { return event(6, g, channel, -1, 0, -1, "") }
func offers(g, channel, v int) api.Event     { return event(6, g, channel, -1, v, -1, "S") }
func chooses(g, cases int) api.Event         { return event(6, g, -1, cases, 0, -1, "") }
func sent(g, channel, v, mate int) api.Event { return event(7, g, channel, -1, v, mate, "SK") }
func got(g, channel, v, mate int) api.Event  { return event(7, g, channel, -1, v, mate, "K") }
func woken(g, channel, mate int) api.Event   { return event(7, g, channel, -1, 0, mate, "") }
func defaults(g int) api.Event               { return event(8, g, -1, -1, -1, -1, "") }
func read(g, cell int) api.Event             { return event(9, g, -1, -1, cell, -1, "") }
func write(g, cell int) api.Event            { return event(10, g, -1, -1, cell, -1, "") }
func exit(g int) api.Event                   { return event(11, g, -1, -1, -1, -1, "") }
func panics(g int) api.Event                 { return event(12, g, -1, -1, -1, -1, "") }
func compact() api.Event                     { return event(13, -1, -1, -1, -1, -1, "") }
func trace(l ...api.Event) []api.Event       { return l }

// ahead has just these be ahead of each event, by places.
func ahead(t *testing.T, l []api.Event, want ...[]int) {
	t.Helper()
	m, errno := axiom.Ahead(l)
	if errno != api.OK || m.Size() != len(l) || len(want) != len(l) {
		t.Fatalf("%v, size %d: %v", errno, m.Size(), l)
	}
	for i, places := range want {
		if !slices.Equal(m.Column(i), places) {
			t.Errorf("ahead of %d: %v, not %v: %v", i, m.Column(i), places, l)
		}
	}
}

// numbered has events have these numbers; a Compact has 0 here, and is not asked for.
func numbered(t *testing.T, l []api.Event, want ...int) {
	t.Helper()
	if len(want) != len(l) {
		t.Fatalf("%d numbers of %d events", len(want), len(l))
	}
	for i, n := range want {
		expected := api.OK
		if n == 0 {
			expected = api.ErrArg
		}
		if x, errno := axiom.Number(l, i); x != n || errno != expected {
			t.Errorf("Number(%d): %d, %v, not %d: %v", i, x, errno, n, l)
		}
	}
}

func knows(t *testing.T, l []api.Event, i, g, want int) {
	t.Helper()
	if n, errno := axiom.Knows(l, i, g); n != want || errno != api.OK {
		t.Errorf("Knows(%d, %d): %d, %v, not %d: %v", i, g, n, errno, want, l)
	}
}

// raced has a cell's first race be at a place; -1, if it has none.
func raced(t *testing.T, name string, l []api.Event, cell, want int) {
	t.Helper()
	if at, is, errno := axiom.First(l, cell); at != max(0, want) || is != (want >= 0) || errno != api.OK {
		t.Errorf("%s: First(%d): %d, %t, %v, not %d", name, cell, at, is, errno, want)
	}
}

// settled has a goroutine have a cut; -1, if it is not settled.
func settled(t *testing.T, name string, l []api.Event, g, want int) {
	t.Helper()
	if cut, is, errno := axiom.Settled(l, g); cut != max(0, want) || is != (want >= 0) || errno != api.OK {
		t.Errorf("%s: Settled(%d): %d, %t, %v, not %d", name, g, cut, is, errno, want)
	}
}

// refused has all calls answer one error, and nothing beside it, whatever else they are asked.
func refused(t *testing.T, name string, l []api.Event, want api.Errno) {
	t.Helper()
	if m, errno := axiom.Ahead(l); m != nil || errno != want {
		t.Errorf("%s: Ahead: %v, %v", name, m, errno)
	}
	for _, x := range []int{0, 1, -1, 8, len(l) - 1, len(l), math.MaxInt, math.MinInt} {
		if n, errno := axiom.Number(l, x); n != 0 || errno != want {
			t.Errorf("%s: Number(%d): %d, %v", name, x, n, errno)
		}
		for _, g := range []int{0, 1, -1} {
			if n, errno := axiom.Knows(l, x, g); n != 0 || errno != want {
				t.Errorf("%s: Knows(%d, %d): %d, %v", name, x, g, n, errno)
			}
		}
		if at, is, errno := axiom.First(l, x); at != 0 || is || errno != want {
			t.Errorf("%s: First(%d): %d, %t, %v", name, x, at, is, errno)
		}
		if cut, is, errno := axiom.Settled(l, x); cut != 0 || is || errno != want {
			t.Errorf("%s: Settled(%d): %d, %t, %v", name, x, cut, is, errno)
		}
	}
}

func TestExample(t *testing.T) {
	raced(t, "two writes", trace(spawn(0, 1), write(0, 0), write(1, 0)), 0, 2)
	raced(t, "the other way round", trace(spawn(0, 1), write(1, 0), write(0, 0)), 0, 2)
}

func TestNoEvent(t *testing.T) {
	for _, l := range [][]api.Event{nil, {}} {
		ahead(t, l)
		for cell := range api.Cells {
			raced(t, "nothing", l, cell, -1)
		}
		settled(t, "nothing", l, 0, -1)
		for _, i := range []int{-1, 0, 1} {
			if n, errno := axiom.Number(l, i); n != 0 || errno != api.ErrArg {
				t.Errorf("Number(%d): %d, %v", i, n, errno)
			}
			if n, errno := axiom.Knows(l, i, 0); n != 0 || errno != api.ErrArg {
				t.Errorf("Knows(%d): %d, %v", i, n, errno)
			}
		}
		if cut, is, errno := axiom.Settled(l, 1); cut != 0 || is || errno != api.ErrArg {
			t.Errorf("%d, %t, %v", cut, is, errno)
		}
	}
}

// TestHandOver: what a channel without a buffer has known on both sides.
func TestHandOver(t *testing.T) {
	l := trace(makes(0, 0, 0), spawn(0, 1), read(1, 0), waits(0, 0), compact(), send(1, 0, 5, 0), got(0, 0, 5, 1), read(1, 0))
	ahead(t, l, nil, []int{0}, []int{0, 1}, []int{0, 1}, nil, []int{0, 1, 2, 3}, []int{0, 1, 2, 3, 5}, []int{0, 1, 2, 3, 5})
	numbered(t, l, 1, 1, 1, 2, 0, 1, 3, 2)
	for i, want := range []int{1, 1, 1, 2, -1, 2, 3, 2} {
		if want >= 0 {
			knows(t, l, i, 0, want)
		}
	}
	for i, want := range []int{0, 0, 1, 0, -1, 1, 1, 2} {
		if want >= 0 {
			knows(t, l, i, 1, want)
		}
	}
}

// TestABuffer: the second send knows of the first receive, over two steps of what that one knew.
func TestABuffer(t *testing.T) {
	l := trace(makes(0, 0, 1), spawn(0, 1), send(0, 0, 5, -1), write(1, 3), recv(1, 0, 5, -1), read(0, 3), send(0, 0, 6, -1), write(0, 3))
	ahead(t, l, nil, []int{0}, []int{0, 1}, []int{0, 1}, []int{0, 1, 2, 3}, []int{0, 1, 2}, []int{0, 1, 2, 3, 4, 5}, []int{0, 1, 2, 3, 4, 5, 6})
	numbered(t, l, 1, 1, 2, 1, 1, 3, 3, 4)
	knows(t, l, 5, 1, 0)
	knows(t, l, 6, 1, 1)
	knows(t, l, 4, 0, 2)
	raced(t, "behind the send", l, 3, 5)
}

// TestNumbers: an event's number is one more than how many of its goroutine's ahead tell, whichever kinds they are.
func TestNumbers(t *testing.T) {
	numbered(t, trace(makes(0, 0, 1), read(0, 0), write(0, 0), defaults(0), compact(), spawn(0, 1), exit(1), read(0, 1), exit(0)), 1, 1, 1, 1, 0, 1, 1, 2, 2)
	numbered(t, trace(makes(0, 0, 1), send(0, 0, 5, -1), recv(0, 0, 5, -1), closes(0, 0), nothing(0, 0), chooses(0, 0)), 1, 1, 2, 3, 4, 5)
	numbered(t, trace(makes(0, 0, 0), spawn(0, 1), spawn(1, 2), waits(1, 0), offers(2, 0, 5), closes(0, 0), woken(1, 0, 0), panics(2)), 1, 1, 1, 2, 1, 2, 3, 2)
}

func TestKnows(t *testing.T) {
	// 1 knows its Spawn, 2 what 1 knew when it spawned it; what is told later is not known.
	l := trace(spawn(0, 1), spawn(0, 2), spawn(1, 3), read(0, 0), read(3, 0), read(2, 0), exit(1), compact())
	for i, want := range [][]int{{1, 0, 0, 0}, {2, 0, 0, 0}, {1, 1, 0, 0}, {3, 0, 0, 0}, {1, 1, 0, 1}, {2, 0, 1, 0}, {1, 2, 0, 0}} {
		for g, n := range want {
			knows(t, l, i, g, n)
		}
		for _, g := range []int{-1, 4, 511, 512, math.MaxInt, math.MinInt} {
			knows(t, l, i, g, 0)
		}
	}
	for _, i := range []int{-1, 7, 8, math.MaxInt, math.MinInt} {
		for _, g := range []int{0, -1} {
			if n, errno := axiom.Knows(l, i, g); n != 0 || errno != api.ErrArg {
				t.Errorf("Knows(%d, %d): %d, %v", i, g, n, errno)
			}
		}
		if n, errno := axiom.Number(l, i); n != 0 || errno != api.ErrArg {
			t.Errorf("Number(%d): %d, %v", i, n, errno)
		}
	}
}

func TestRaces(t *testing.T) {
	start := trace(makes(0, 0, 0), spawn(0, 1), spawn(0, 2))
	behind := func(l ...api.Event) []api.Event { return slices.Concat(start, l) }
	raced(t, "two reads", behind(read(0, 4), read(1, 4), read(2, 4)), 4, -1)
	raced(t, "a read of what was written", behind(write(0, 4), read(1, 4)), 4, 4)
	raced(t, "a write of what was read", behind(read(0, 4), write(1, 4)), 4, 4)
	raced(t, "two writes", behind(write(2, 4), compact(), write(1, 4)), 4, 5)
	raced(t, "one goroutine", behind(write(1, 4), read(1, 4), write(1, 4)), 4, -1)
	raced(t, "two cells", behind(write(1, 4), write(2, 5)), 4, -1)
	raced(t, "two cells", behind(write(1, 4), write(2, 5)), 5, -1)
	raced(t, "ahead of the spawn", trace(write(0, 4), spawn(0, 1), write(1, 4)), 4, -1)
	handed := behind(write(1, 4), waits(0, 0), send(1, 0, 5, 0), got(0, 0, 5, 1), write(0, 4))
	raced(t, "behind a send", handed, 4, -1)
	raced(t, "of one beside it", slices.Concat(handed, trace(read(2, 4))), 4, 8)
	// A later pair may be the first race: its further one counts.
	raced(t, "the further one counts", behind(write(1, 4), write(2, 5), read(0, 5), read(2, 4)), 4, 6)
	raced(t, "the further one counts", behind(write(1, 4), write(2, 5), read(0, 5), read(2, 4)), 5, 5)
	raced(t, "with an earlier one", behind(write(1, 4), waits(0, 0), send(1, 0, 5, 0), got(0, 0, 5, 1), read(0, 4), read(2, 4), write(2, 4)), 4, 8)
	for _, l := range [][]api.Event{trace(spawn(0, 1), write(0, 0), write(1, 0)), trace(spawn(0, 1), write(0, 7), write(1, 7))} {
		for cell := range api.Cells {
			want := -1
			if cell == l[1].Value {
				want = 2
			}
			raced(t, "its cell alone", l, cell, want)
		}
		for _, cell := range []int{-1, 8, 9, math.MaxInt, math.MinInt} {
			if at, is, errno := axiom.First(l, cell); at != 0 || is || errno != api.ErrArg {
				t.Errorf("First(%d): %d, %t, %v", cell, at, is, errno)
			}
		}
	}
}

// TestOtherValuesAreNoCells: programs, capacities and values have the same numbers.
func TestOtherValuesAreNoCells(t *testing.T) {
	l := trace(makes(0, 0, 3), spawn(0, 1), send(0, 0, 3, -1), write(1, 3), recv(1, 0, 3, -1), read(1, 0))
	for cell := range api.Cells {
		raced(t, "values", l, cell, -1)
	}
}

func TestWhoIsSettled(t *testing.T) {
	told := trace(spawn(0, 1), exit(1))
	settled(t, "told nobody", told, 1, 0)
	settled(t, "one that lives", told, 0, -1)
	settled(t, "a Compact changes nothing", append(slices.Clone(told), compact()), 1, 0)
	settled(t, "nobody lives", append(slices.Clone(told), exit(0)), 1, -1)
	settled(t, "nobody lives", append(slices.Clone(told), exit(0)), 0, -1)
	settled(t, "nobody lives", trace(exit(0)), 0, -1)
	settled(t, "the first one, known by its Spawn", trace(spawn(0, 1), exit(0)), 0, 1)
	settled(t, "and by the child's events", trace(spawn(0, 1), exit(0), read(1, 0)), 0, 1)
	settled(t, "two children know it unlike", trace(spawn(0, 1), spawn(0, 2), exit(0)), 0, -1)
	settled(t, "until one exits", trace(spawn(0, 1), spawn(0, 2), exit(0), exit(1)), 0, 2)
	settled(t, "or the other one does", trace(spawn(0, 1), spawn(0, 2), exit(0), exit(2)), 0, 1)
	settled(t, "a child of one that knows it", trace(spawn(0, 1), exit(0), spawn(1, 2)), 0, 1)
	settled(t, "who spawned somebody is known by it alone", trace(spawn(0, 1), spawn(1, 2), exit(1)), 1, -1)
	settled(t, "who panics lives", trace(spawn(0, 1), exit(0), panics(1)), 0, 1)
	settled(t, "who panics lives, and knows it unlike", trace(spawn(0, 1), spawn(0, 2), exit(0), panics(1)), 0, -1)
	settled(t, "who waits lives", trace(spawn(0, 1), spawn(0, 2), exit(0), chooses(1, 2)), 0, -1)
	for _, g := range []int{-1, 2, 3, 511, 512, math.MaxInt, math.MinInt} {
		if cut, is, errno := axiom.Settled(told, g); cut != 0 || is || errno != api.ErrArg {
			t.Errorf("Settled(%d): %d, %t, %v", g, cut, is, errno)
		}
	}
}

// TestWhatIsHeld: goroutine 1 exits, and somebody could learn of it yet from a channel.
func TestWhatIsHeld(t *testing.T) {
	start := func(size int) []api.Event { return trace(makes(0, 0, size), spawn(0, 1)) }
	l := slices.Concat(start(1), trace(send(1, 0, 5, -1), exit(1)))
	settled(t, "a value in the buffer", l, 1, -1)
	settled(t, "until it is received", append(l, recv(0, 0, 5, -1)), 1, 1)

	l = slices.Concat(start(1), trace(send(0, 0, 4, -1), offers(1, 0, 5), recv(0, 0, 4, 1), sent(1, 0, 5, 0), exit(1)))
	settled(t, "a value that waited for room", l, 1, -1)
	l = append(l, recv(0, 0, 5, -1))
	settled(t, "until it is received", l, 1, 1)
	knows(t, l, len(l)-1, 1, 1)

	l = slices.Concat(start(1), trace(send(0, 0, 5, -1), recv(1, 0, 5, -1), exit(1)))
	settled(t, "room in the buffer", l, 1, -1)
	settled(t, "until it is taken", append(l, send(0, 0, 6, -1)), 1, 1)

	l = slices.Concat(start(2), trace(send(0, 0, 5, -1), recv(1, 0, 5, -1), exit(1), send(0, 0, 6, -1)))
	settled(t, "room of the first receive", l, 1, -1)
	settled(t, "until the send two further on", append(l, send(0, 0, 7, -1)), 1, 1)

	l = slices.Concat(start(1), trace(waits(1, 0), send(0, 0, 5, 1), got(1, 0, 5, 0), exit(1)))
	settled(t, "room of one that waited", l, 1, -1)
	settled(t, "until it is taken", append(l, send(0, 0, 6, -1)), 1, 1)

	l = slices.Concat(start(0), trace(waits(1, 0), send(0, 0, 5, 1), got(1, 0, 5, 0), exit(1)))
	settled(t, "without a buffer nothing is held", l, 1, 1)
	l = slices.Concat(start(0), trace(offers(0, 0, 5), recv(1, 0, 5, 0), sent(0, 0, 5, 1), exit(1)))
	settled(t, "without a buffer nothing is held", l, 1, 1)

	l = slices.Concat(start(0), trace(closes(1, 0), exit(1)))
	settled(t, "a Close", l, 1, -1)
	settled(t, "until all know it", append(l, nothing(0, 0)), 1, 1)
	l = slices.Concat(start(0), trace(waits(0, 0), closes(1, 0), woken(0, 0, 1), exit(1)))
	settled(t, "until all know it", l, 1, 1)

	// What is held counts no more than what it knows: 0's own send knows nothing of 1.
	l = slices.Concat(start(1), trace(exit(1), send(0, 0, 5, -1)))
	settled(t, "a value that knows nothing of it", l, 1, 0)
	// Of two channels one holds nothing.
	l = slices.Concat(start(1), trace(makes(0, 1, 1), send(0, 0, 5, -1), recv(0, 0, 5, -1), send(1, 1, 6, -1), exit(1)))
	settled(t, "another channel", l, 1, -1)
	settled(t, "another channel", append(l, recv(0, 1, 6, -1)), 1, 1)
}

// TestWhatOthersHold: goroutine 1 told 2, of whose sends 0 may learn yet, though 2 exited, too.
func TestWhatOthersHold(t *testing.T) {
	l := trace(makes(0, 0, 1), makes(0, 1, 1), spawn(0, 1), spawn(0, 2), send(1, 0, 5, -1), exit(1), recv(2, 0, 5, -1), send(2, 1, 6, -1), exit(2))
	settled(t, "in the buffer of 1", l, 1, -1)
	settled(t, "in the buffer of 1", l, 2, -1)
	l = append(l, recv(0, 1, 6, -1))
	settled(t, "received", l, 1, 1)
	settled(t, "received, and the room of 0", l, 2, 2)
	// 0 learnt of 1, sends, and exits, so that 2 alone lives.
	l = trace(makes(0, 0, 1), makes(0, 1, 1), spawn(0, 1), spawn(0, 2), send(1, 0, 5, -1), exit(1), recv(0, 0, 5, -1), send(0, 1, 6, -1), exit(0))
	settled(t, "2 knows nothing of it, what is in the buffer does", l, 1, -1)
	settled(t, "2 knows it", append(l, recv(2, 1, 6, -1)), 1, 1)
}

// TestAServiceIsMissing: whom the last event serves waits still, and the send, or receive, of it is not there yet.
func TestAServiceIsMissing(t *testing.T) {
	for size := range 2 {
		l := trace(makes(0, 0, size), spawn(0, 1), spawn(0, 2), exit(2), waits(1, 0), send(0, 0, 5, 1))
		ahead(t, l, nil, []int{0}, []int{0, 1}, []int{0, 1, 2}, []int{0, 1}, []int{0, 1, 2})
		numbered(t, l, 1, 1, 2, 1, 1, 3)
		settled(t, "a Wake is missing", l, 2, 0)
		l = trace(makes(0, 0, size), spawn(0, 1), spawn(0, 2), exit(2), offers(1, 0, 5), recv(0, 0, 5, 1))
		ahead(t, l, nil, []int{0}, []int{0, 1}, []int{0, 1, 2}, []int{0, 1}, []int{0, 1, 2})
		settled(t, "a Wake is missing", l, 2, 0)
	}
	// The last send takes the room of 2's receive, and so knows of it; 1, which is served, does not.
	l := trace(makes(0, 0, 1), spawn(0, 1), spawn(0, 2), send(0, 0, 5, -1), recv(2, 0, 5, -1), exit(2), waits(1, 0), send(0, 0, 6, 1))
	settled(t, "one knows", l, 2, -1)
	settled(t, "both know", append(l, got(1, 0, 6, 0)), 2, 1)
}

func TestWhatIsNoTrace(t *testing.T) {
	for _, c := range []struct {
		name string
		l    []api.Event
	}{
		{"an event that is none", trace(api.Event{})},
		{"rule 1", trace(read(0, 0), exit(512))},
		{"rule 2", trace(exit(0), exit(0))},
		{"rule 3", trace(closes(0, 0))},
		{"rule 4", trace(makes(0, 0, 0), spawn(0, 1), waits(1, 0), send(0, 0, 5, 1), compact())},
		{"rule 5", trace(makes(0, 0, 0), send(0, 0, 5, -1))},
		{"rule 6", trace(makes(0, 0, 0), closes(0, 0), closes(0, 0))},
		{"too long, and no trace", append(slices.Repeat(trace(compact()), 1100), read(1, 0))},
		{"2001 events", slices.Repeat(trace(compact()), 2001)},
	} {
		refused(t, c.name, c.l, api.ErrForm)
	}
}

func TestTheLongest(t *testing.T) {
	reads := func(n int) []api.Event { return slices.Repeat(trace(read(0, 0)), n) }
	l := append(trace(makes(0, 0, 1), spawn(0, 1)), reads(1020)...)
	l = append(l, write(1, 0), exit(1))
	m, errno := axiom.Ahead(l)
	if errno != api.OK || m.Size() != 1024 || m.Count() != 1022*1021/2+2*2+1 || !m.Has(0, 1021) || m.Has(1021, 1022) || !m.Has(1, 1023) {
		t.Errorf("%d pairs of %d, %v", m.Count(), m.Size(), errno)
	}
	raced(t, "the longest", l, 0, 1022)
	settled(t, "the longest", l, 1, 0)
	if n, errno := axiom.Number(l, 1023); n != 1 || errno != api.OK {
		t.Errorf("%d, %v", n, errno)
	}
	knows(t, l, 1023, 0, 1)
	for _, n := range []int{1025, 1100, 1999, 2000} {
		refused(t, "too long", reads(n), api.ErrLong)
		refused(t, "too long", slices.Repeat(trace(compact()), n), api.ErrLong)
	}
	refused(t, "too long, and a service is missing", append(append(trace(makes(0, 0, 1)), reads(1023)...), send(0, 0, 5, 1)), api.ErrLong)
	if m, errno := axiom.Ahead(slices.Repeat(trace(compact()), 1024)); errno != api.OK || m.Size() != 1024 || m.Count() != 0 {
		t.Errorf("%d pairs of %d, %v", m.Count(), m.Size(), errno)
	}
}

// TestAnswersAreNew: what is done to a matrix that was answered changes no other answer, and events stay as they were.
func TestAnswersAreNew(t *testing.T) {
	whole := trace(makes(0, 0, 1), spawn(0, 1), send(1, 0, 5, -1), exit(1), read(0, 0), exit(7))
	l, before := whole[:5], slices.Clone(whole)
	first, _ := axiom.Ahead(l)
	second, _ := axiom.Ahead(l)
	for i := range 5 {
		for k := range 5 {
			first.Set(i, k)
		}
	}
	third, _ := axiom.Ahead(l)
	if first.Count() != 25 || second.Count() != 8 || third.Count() != 8 {
		t.Errorf("%d, %d, %d", first.Count(), second.Count(), third.Count())
	}
	axiom.Number(l, 4)
	knows(t, l, 4, 1, 0)
	raced(t, "nothing", l, 0, -1)
	settled(t, "held", l, 1, -1)
	if !slices.Equal(whole, before) {
		t.Errorf("%v, not %v", whole, before)
	}
}
