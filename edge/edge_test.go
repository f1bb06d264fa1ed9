package edge_test

import (
	"math"
	"slices"
	"testing"

	"staithe/api"
	"staithe/edge"
	"staithe/loom"
)

// event is one whose fields are told in the order of api's, with the letters S for Send, K for OK.
func event(kind, g, channel, at, value, mate int, flags string) api.Event {
	return api.Event{Kind: kind, G: g, Chan: channel, Case: at, Value: value, Mate: mate, Send: flags == "S" || flags == "SK", OK: flags == "K" || flags == "SK"}
}

func spawn(g, mate int) api.Event            { return event(1, g, -1, -1, 0, mate, "") }
func makes(g, channel, size int) api.Event   { return event(2, g, channel, -1, size, -1, "") }
func send(g, channel, v, mate int) api.Event { return event(3, g, channel, -1, v, mate, "S") }
func recv(g, channel, v, mate int) api.Event { return event(4, g, channel, -1, v, mate, "K") }
func nothing(g, channel int) api.Event       { return event(4, g, channel, -1, 0, -1, "") }
func closes(g, channel int) api.Event        { return event(5, g, channel, -1, -1, -1, "") }
func waits(g, channel int) api.Event         { return event(6, g, channel, -1, 0, -1, "") }
func offers(g, channel, v int) api.Event     { return event(6, g, channel, -1, v, -1, "S") }
func chooses(g, cases int) api.Event         { return event(6, g, -1, cases, 0, -1, "") }
func sent(g, channel, v, mate int) api.Event { return event(7, g, channel, -1, v, mate, "SK") }
func got(g, channel, v, mate int) api.Event  { return event(7, g, channel, -1, v, mate, "K") }
func woken(g, channel, mate int) api.Event   { return event(7, g, channel, -1, 0, mate, "") }
func defaults(g int) api.Event               { return event(8, g, -1, -1, -1, -1, "") }
func read(g int) api.Event                   { return event(9, g, -1, -1, 0, -1, "") }
func write(g int) api.Event                  { return event(10, g, -1, -1, 0, -1, "") }
func exit(g int) api.Event                   { return event(11, g, -1, -1, -1, -1, "") }
func panics(g int) api.Event                 { return event(12, g, -1, -1, -1, -1, "") }
func compact() api.Event                     { return event(13, -1, -1, -1, -1, -1, "") }
func trace(l ...api.Event) []api.Event       { return l }

// has has a trace have just these edges of a rule, by their From and To.
func has(t *testing.T, l []api.Event, rule int, want ...[2]int) {
	t.Helper()
	var edges []edge.Edge
	for _, x := range want {
		edges = append(edges, edge.Edge{From: x[0], To: x[1], Rule: rule})
	}
	if got, errno := edge.Of(l, rule); errno != api.OK || !slices.Equal(got, edges) {
		t.Errorf("rule %d: %v, %v, not %v: %v", rule, got, errno, edges, l)
	}
}

// begins has what an event completes begin there.
func begins(t *testing.T, l []api.Event, i, want int) {
	t.Helper()
	if at, errno := edge.Begins(l, i); at != want || errno != api.OK {
		t.Errorf("Begins(%d): %d, %v, not %d: %v", i, at, errno, want, l)
	}
}

// refused has all calls answer ErrForm, and nothing beside it.
func refused(t *testing.T, name string, l []api.Event) {
	t.Helper()
	if x, errno := edge.All(l); len(x) != 0 || errno != api.ErrForm {
		t.Errorf("%s: All: %v, %v", name, x, errno)
	}
	for _, rule := range []int{-1, 0, 1, 2, 3, 4, 5, 6, 7} {
		if x, errno := edge.Of(l, rule); len(x) != 0 || errno != api.ErrForm {
			t.Errorf("%s: Of(%d): %v, %v", name, rule, x, errno)
		}
	}
	for _, i := range []int{-1, 0, len(l) - 1, len(l), math.MaxInt, math.MinInt} {
		if at, errno := edge.Begins(l, i); at != 0 || errno != api.ErrForm {
			t.Errorf("%s: Begins(%d): %d, %v", name, i, at, errno)
		}
	}
}

func TestExample(t *testing.T) {
	l, _ := loom.Run(api.Script{T: 9, M: 99, Programs: [][]api.Op{
		{{Kind: api.OpMake}, {Kind: api.OpSpawn, A: 1}, {Kind: api.OpRecv}},
		{{Kind: api.OpSend, B: 5}},
	}, Plan: []int{0, 0, 0, 0}})
	all, errno := edge.All(l)
	want := []edge.Edge{{0, 1, 1}, {1, 2, 1}, {1, 3, 2}, {2, 3, 5}, {2, 4, 1}, {3, 4, 3}}
	if errno != api.OK || !slices.Equal(all, want) {
		t.Errorf("%v, %v, not %v", all, errno, want)
	}
	for i, at := range []int{0, 1, 2, 3, 2} {
		begins(t, l, i, at)
	}
}

func TestNoEventHasNoEdge(t *testing.T) {
	for _, l := range [][]api.Event{nil, {}} {
		if x, errno := edge.All(l); len(x) != 0 || errno != api.OK {
			t.Errorf("%v, %v", x, errno)
		}
		has(t, l, 1)
		for _, i := range []int{-1, 0, 1} {
			if at, errno := edge.Begins(l, i); at != 0 || errno != api.ErrArg {
				t.Errorf("Begins(%d): %d, %v", i, at, errno)
			}
		}
	}
}

// TestGoroutines: rules 1 and 2, whatever the events are.
func TestGoroutines(t *testing.T) {
	l := trace(read(0), spawn(0, 1), compact(), write(0), spawn(1, 2), spawn(0, 3), defaults(1), exit(0), compact(), exit(2), makes(1, 0, 0), waits(1, 0), exit(3), panics(1))
	has(t, l, 1, [2]int{0, 1}, [2]int{1, 3}, [2]int{3, 5}, [2]int{4, 6}, [2]int{5, 7}, [2]int{6, 10}, [2]int{10, 11}, [2]int{11, 13})
	has(t, l, 2, [2]int{1, 4}, [2]int{4, 9}, [2]int{5, 12})
	for rule := 3; rule <= 6; rule++ {
		has(t, l, rule)
	}
}

func TestOneThatWasSpawnedHasNoEventYet(t *testing.T) {
	l := trace(spawn(0, 1), spawn(0, 2), exit(0), panics(2))
	has(t, l, 1, [2]int{0, 1}, [2]int{1, 2})
	has(t, l, 2, [2]int{1, 3})
}

// TestWithoutABuffer: whoever comes first waits; the other one serves it.
func TestWithoutABuffer(t *testing.T) {
	start := trace(makes(0, 0, 0), spawn(0, 1))
	l := slices.Concat(start, trace(waits(0, 0), send(1, 0, 5, 0), got(0, 0, 5, 1)))
	has(t, l, 3, [2]int{3, 4})
	has(t, l, 5, [2]int{2, 3})
	has(t, l, 6)
	l = slices.Concat(start, trace(offers(0, 0, 5), recv(1, 0, 5, 0), sent(0, 0, 5, 1)))
	has(t, l, 3, [2]int{2, 3})
	has(t, l, 5, [2]int{3, 4})
	has(t, l, 6)
	// The second deal is the other way round; a Compact is between.
	l = slices.Concat(l, trace(waits(1, 0), compact(), send(0, 0, 6, 1), got(1, 0, 6, 0)))
	has(t, l, 3, [2]int{2, 3}, [2]int{7, 8})
	has(t, l, 5, [2]int{3, 4}, [2]int{5, 7})
	has(t, l, 4)
}

// TestAWakeIsOfTheLastPark, of its own goroutine, whichever channel that names.
func TestAWakeIsOfTheLastPark(t *testing.T) {
	l := trace(makes(0, 0, 0), makes(0, 1, 0), spawn(0, 1), spawn(0, 2),
		waits(1, 0), send(0, 0, 5, 1), got(1, 0, 5, 0),
		chooses(1, 4), chooses(2, 2), read(0), send(0, 1, 6, 1), got(1, 1, 6, 0),
		recv(0, 0, 7, 2), sent(2, 0, 7, 0))
	for i, at := range []int{0, 1, 2, 3, 4, 5, 4, 7, 8, 9, 10, 7, 12, 8} {
		begins(t, l, i, at)
	}
	has(t, l, 3, [2]int{5, 6}, [2]int{10, 11}, [2]int{8, 12})
	has(t, l, 5, [2]int{4, 5}, [2]int{7, 10}, [2]int{12, 13})
}

// TestABuffer: the k'th receive knows of the k'th send, the send C further on of that receive.
func TestABuffer(t *testing.T) {
	for size := 1; size <= 4; size++ {
		l := trace(makes(0, 0, size), spawn(0, 1))
		var sends, receives []int
		put := func(e api.Event, places *[]int) {
			*places = append(*places, len(l))
			l = append(l, e)
		}
		for v := range size {
			put(send(0, 0, v, -1), &sends)
		}
		for v := range 6 {
			put(recv(1, 0, v, -1), &receives)
			put(send(0, 0, v+size, -1), &sends)
		}
		var forward, back [][2]int
		for k, r := range receives {
			forward = append(forward, [2]int{sends[k], r})
			back = append(back, [2]int{r, sends[k+size]})
		}
		has(t, l, 3, forward...)
		has(t, l, 6, back...)
		has(t, l, 5)
		// What is in the buffer still has no edge; one goroutine alone has edges by its channel, too.
		l = trace(makes(0, 0, size), send(0, 0, 9, -1), recv(0, 0, 9, -1), send(0, 0, 8, -1))
		has(t, l, 3, [2]int{1, 2})
		if size == 1 {
			has(t, l, 6, [2]int{2, 3})
		} else {
			has(t, l, 6)
		}
	}
}

// TestWhoWaitsForABuffer: a sender's value comes in when a receive makes room; a receiver takes what is sent.
func TestWhoWaitsForABuffer(t *testing.T) {
	l := trace(makes(0, 0, 1), spawn(0, 1), send(0, 0, 5, -1), offers(0, 0, 6), recv(1, 0, 5, 0), sent(0, 0, 6, 1), recv(1, 0, 6, -1), send(0, 0, 7, -1))
	has(t, l, 3, [2]int{2, 4}, [2]int{3, 6})
	has(t, l, 6, [2]int{4, 5}, [2]int{6, 7})
	l = trace(makes(0, 0, 1), spawn(0, 1), waits(1, 0), send(0, 0, 5, 1), got(1, 0, 5, 0), send(0, 0, 6, -1), recv(1, 0, 6, -1), send(0, 0, 7, -1))
	has(t, l, 3, [2]int{3, 4}, [2]int{5, 6})
	has(t, l, 6, [2]int{2, 5}, [2]int{6, 7})
	for _, rule := range []int{4, 5} {
		has(t, l, rule)
	}
}

func TestClosing(t *testing.T) {
	l := trace(makes(0, 0, 1), makes(0, 1, 0), spawn(0, 1), spawn(0, 2), send(0, 0, 5, -1), waits(1, 1), waits(2, 1),
		closes(0, 1), woken(1, 1, 0), woken(2, 1, 0), closes(1, 0), recv(2, 0, 5, -1), nothing(2, 0), nothing(0, 1), nothing(1, 0))
	has(t, l, 4, [2]int{7, 8}, [2]int{7, 9}, [2]int{10, 12}, [2]int{7, 13}, [2]int{10, 14})
	has(t, l, 3, [2]int{4, 11})
	has(t, l, 5)
	has(t, l, 6)
	begins(t, l, 8, 5)
	begins(t, l, 9, 6)
	// Who closed may be the one who hears of it.
	l = trace(makes(0, 0, 0), closes(0, 0), nothing(0, 0))
	has(t, l, 1, [2]int{0, 1}, [2]int{1, 2})
	has(t, l, 4, [2]int{1, 2})
}

// TestChannelsDoNotTouchOneAnother: each counts its own.
func TestChannelsDoNotTouchOneAnother(t *testing.T) {
	l := trace(makes(0, 0, 1), makes(0, 1, 2), spawn(0, 1), send(0, 1, 5, -1), send(0, 0, 6, -1), send(0, 1, 7, -1),
		recv(1, 0, 6, -1), recv(1, 1, 5, -1), send(0, 0, 8, -1), send(0, 1, 9, -1), recv(1, 1, 7, -1), recv(1, 0, 8, -1))
	has(t, l, 3, [2]int{4, 6}, [2]int{3, 7}, [2]int{5, 10}, [2]int{8, 11})
	has(t, l, 6, [2]int{6, 8}, [2]int{7, 9})
}

// TestAServiceIsMissing: whom the last event serves has not sent, or received, yet.
func TestAServiceIsMissing(t *testing.T) {
	for size := range 2 {
		l := trace(makes(0, 0, size), spawn(0, 1), waits(1, 0), send(0, 0, 5, 1))
		has(t, l, 1, [2]int{0, 1}, [2]int{1, 3})
		for rule := 3; rule <= 6; rule++ {
			has(t, l, rule)
		}
		begins(t, l, 3, 3)
	}
	for rule := 3; rule <= 6; rule++ {
		has(t, trace(makes(0, 0, 0), spawn(0, 1), offers(1, 0, 5), recv(0, 0, 5, 1)), rule)
	}
	l := trace(makes(0, 0, 1), spawn(0, 1), send(0, 0, 4, -1), offers(0, 0, 5), recv(1, 0, 4, 0))
	has(t, l, 3, [2]int{2, 4})
	has(t, l, 6)
	// The rules do not ask whether who was served is there at all.
	for _, mate := range []int{0, 1, 2, 511} {
		for _, e := range []api.Event{send(0, 0, 5, mate), recv(0, 0, 5, mate)} {
			l := trace(makes(0, 0, 1), spawn(0, 1), e)
			has(t, l, 1, [2]int{0, 1}, [2]int{1, 2})
			for rule := 2; rule <= 6; rule++ {
				has(t, l, rule)
			}
		}
	}
}

// TestServicesThatNoRunHas: who waits to receive though there is a value, and to send though there is room.
func TestServicesThatNoRunHas(t *testing.T) {
	l := trace(makes(0, 0, 1), spawn(0, 1), send(0, 0, 5, -1), waits(1, 0), send(0, 0, 5, 1), got(1, 0, 5, 0), recv(1, 0, 5, -1))
	has(t, l, 3, [2]int{2, 5}, [2]int{4, 6})
	has(t, l, 6, [2]int{3, 4})
	l = trace(makes(0, 0, 1), spawn(0, 1), offers(1, 0, 5), recv(0, 0, 5, 1), sent(1, 0, 5, 0), send(0, 0, 6, -1))
	has(t, l, 3, [2]int{2, 3})
	has(t, l, 6, [2]int{3, 5})
}

func TestAllIsInItsOrder(t *testing.T) {
	// From one event to another one there may be two edges, by two rules.
	l := trace(makes(0, 0, 1), spawn(0, 1), send(1, 0, 5, -1), recv(1, 0, 5, -1), closes(1, 0), nothing(1, 0), nothing(0, 0))
	all, errno := edge.All(l)
	want := []edge.Edge{{0, 1, 1}, {1, 2, 2}, {2, 3, 1}, {2, 3, 3}, {3, 4, 1}, {4, 5, 1}, {4, 5, 4}, {1, 6, 1}, {4, 6, 4}}
	if errno != api.OK || !slices.Equal(all, want) {
		t.Errorf("%v, %v, not %v", all, errno, want)
	}
}

func TestOfNoRule(t *testing.T) {
	l := trace(makes(0, 0, 1), send(0, 0, 5, -1), recv(0, 0, 5, -1))
	for _, rule := range []int{0, -1, 7, 8, math.MaxInt, math.MinInt} {
		has(t, l, rule)
	}
}

func TestBeginsOfNoPlace(t *testing.T) {
	l := trace(makes(0, 0, 0), spawn(0, 1), waits(1, 0), closes(0, 0), woken(1, 0, 0), compact())
	for i, at := range []int{0, 1, 2, 3, 2, 5} {
		begins(t, l, i, at)
	}
	for _, i := range []int{-1, 6, 7, math.MaxInt, math.MinInt} {
		if at, errno := edge.Begins(l, i); at != 0 || errno != api.ErrArg {
			t.Errorf("Begins(%d): %d, %v", i, at, errno)
		}
	}
}

func TestWhatIsNoTrace(t *testing.T) {
	for _, c := range []struct {
		name string
		l    []api.Event
	}{
		{"an event that is none", trace(api.Event{})},
		{"rule 1", trace(read(0), event(11, 512, -1, -1, -1, -1, ""))},
		{"rule 2", trace(exit(0), exit(0))},
		{"rule 2, of nobody", trace(read(1))},
		{"rule 2, a wake of one that does not wait", trace(makes(0, 0, 0), spawn(0, 1), send(0, 0, 5, 1), got(1, 0, 5, 0))},
		{"rule 3", trace(closes(0, 0))},
		{"rule 4, a wake of nobody's", trace(makes(0, 0, 0), waits(0, 0), got(0, 0, 5, 0))},
		{"rule 4, another event in a service's place", trace(makes(0, 0, 0), spawn(0, 1), waits(1, 0), send(0, 0, 5, 1), compact())},
		{"rule 5", trace(makes(0, 0, 0), send(0, 0, 5, -1))},
		{"rule 5, another value", trace(makes(0, 0, 1), send(0, 0, 5, -1), recv(0, 0, 6, -1))},
		{"rule 6", trace(makes(0, 0, 0), closes(0, 0), closes(0, 0))},
		{"rule 6, nothing though it is open", trace(makes(0, 0, 0), nothing(0, 0))},
		{"too long", slices.Repeat(trace(compact()), 2001)},
		{"too long, and a service is missing", append(append(trace(makes(0, 0, 1)), slices.Repeat(trace(read(0)), 1999)...), send(0, 0, 5, 1))},
	} {
		refused(t, c.name, c.l)
	}
}

func TestTheLongestTrace(t *testing.T) {
	if x, errno := edge.All(slices.Repeat(trace(compact()), 2000)); len(x) != 0 || errno != api.OK {
		t.Errorf("%d, %v", len(x), errno)
	}
	l := slices.Repeat(trace(read(0)), 2000)
	x, errno := edge.All(l)
	if len(x) != 1999 || errno != api.OK || x[1998] != (edge.Edge{From: 1998, To: 1999, Rule: 1}) {
		t.Errorf("%d, %v", len(x), errno)
	}
	begins(t, l, 1999, 1999)
	// Many that wait long.
	l = trace(makes(0, 0, 0))
	for g := 1; g < 400; g++ {
		l = append(l, spawn(0, g), waits(g, 0))
	}
	l = append(l, closes(0, 0))
	for g := 1; g < 400; g++ {
		l = append(l, woken(g, 0, 0))
	}
	if x, errno := edge.Of(l, 4); len(x) != 399 || errno != api.OK {
		t.Errorf("%d, %v", len(x), errno)
	}
	begins(t, l, 800, 2)
}

func TestTells(t *testing.T) {
	for kind := -2; kind <= 20; kind++ {
		want := kind == 1 || kind == 3 || kind == 4 || kind == 5 || kind == 6
		for _, e := range []api.Event{{Kind: kind}, event(kind, 3, 1, 0, 5, 2, "SK"), event(kind, -1, -1, -1, -1, -1, "")} {
			if edge.Tells(e) != want {
				t.Errorf("%v: not %t", e, want)
			}
		}
	}
	for _, kind := range []int{math.MinInt, math.MaxInt, 1 << 32, 1<<32 + 1} {
		if edge.Tells(api.Event{Kind: kind}) {
			t.Errorf("%d tells", kind)
		}
	}
}

// TestAnswersAreNew: what is done to an answer, and to its spare room, is seen by nobody; the trace stays as it was.
func TestAnswersAreNew(t *testing.T) {
	room := trace(makes(0, 0, 1), send(0, 0, 5, -1), recv(0, 0, 5, -1), exit(0), read(7), read(8))
	l, before := room[:4], slices.Clone(room)
	for range 2 {
		all, _ := edge.All(l)
		if want := []edge.Edge{{0, 1, 1}, {1, 2, 1}, {1, 2, 3}, {2, 3, 1}}; !slices.Equal(all, want) {
			t.Fatalf("%v, not %v", all, want)
		}
		some, _ := edge.Of(l, 3)
		if want := []edge.Edge{{1, 2, 3}}; !slices.Equal(some, want) {
			t.Fatalf("%v, not %v", some, want)
		}
		edge.Begins(l, 2)
		for _, x := range [][]edge.Edge{all[:cap(all)], some[:cap(some)]} {
			for i := range x {
				x[i] = edge.Edge{From: 9, To: 9, Rule: 9}
			}
		}
		if !slices.Equal(room, before) {
			t.Fatalf("%v, not %v", room, before)
		}
	}
}
