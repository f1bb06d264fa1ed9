package gauge_test

import (
	"math"
	"math/rand"
	"slices"
	"testing"

	"staithe/api"
	"staithe/gauge"
	"staithe/loom"
)

// event is one whose fields are told in the order of api's, with the letters S for Send, K for OK.
func event(kind, g, channel, at, value, mate int, flags string) api.Event {
	return api.Event{Kind: kind, G: g, Chan: channel, Case: at, Value: value, Mate: mate, Send: flags == "S" || flags == "SK", OK: flags == "K" || flags == "SK"}
}

func spawn(g, mate int) api.Event            { return event(1, g, -1, -1, 0, mate, "") }
func makes(g, channel, size int) api.Event   { return event(2, g, channel, -1, size, -1, "") }
func send(g, channel, v, mate int) api.Event { return event(3, g, channel, -1, v, mate, "S") }
func recv(g, channel, v, mate int) api.Event { return event(4, g, channel, -1, v, mate, "K") }
func nothing(g, channel int) api.Event       { return event(4, g, channel, -1, 0, -1, "") }
func closes(g, channel int) api.Event        { return event(5, g, channel, -1, -1, -1, "") }
func waits(g, channel int) api.Event         { return event(6, g, channel, -1, 0, -1, "") }
func sent(g, channel, v, mate int) api.Event { return event(7, g, channel, -1, v, mate, "SK") }
func got(g, channel, v, mate int) api.Event  { return event(7, g, channel, -1, v, mate, "K") }
func woken(g, channel, mate int) api.Event   { return event(7, g, channel, -1, 0, mate, "") }
func read(g int) api.Event                   { return event(9, g, -1, -1, 0, -1, "") }
func exit(g int) api.Event                   { return event(11, g, -1, -1, -1, -1, "") }
func panics(g int) api.Event                 { return event(12, g, -1, -1, -1, -1, "") }
func compact() api.Event                     { return event(13, -1, -1, -1, -1, -1, "") }
func trace(l ...api.Event) []api.Event       { return l }
func behind(l, more []api.Event) []api.Event { return append(slices.Clone(l), more...) }
func many(n int, e api.Event) []api.Event    { return slices.Repeat([]api.Event{e}, n) }
func changed(l []api.Event, at int, e api.Event) []api.Event {
	l = slices.Clone(l)
	l[at] = e
	return l
}

// tells has Check tell this of a trace, and the oracle, too.
func tells(t *testing.T, name string, l []api.Event, rule, at int) {
	t.Helper()
	if n, i := gauge.Check(l); n != rule || i != at {
		t.Errorf("%s: %d, %d, not %d, %d: %v", name, n, i, rule, at, l)
	}
	if n, i := oracle(l); n != rule || i != at {
		t.Errorf("%s: the oracle: %d, %d, not %d, %d: %v", name, n, i, rule, at, l)
	}
}

func TestExample(t *testing.T) {
	tells(t, "two exits", trace(exit(0), exit(0)), 2, 1)
}

func TestNoEventIsATrace(t *testing.T) {
	tells(t, "nil", nil, 0, 0)
	tells(t, "empty", trace(), 0, 0)
}

func TestRule1(t *testing.T) {
	for _, e := range []api.Event{{}, event(0, 0, -1, -1, -1, -1, ""), event(14, 0, -1, -1, -1, -1, ""), event(11, -1, -1, -1, -1, -1, ""), event(11, 512, -1, -1, -1, -1, ""), event(13, 0, -1, -1, -1, -1, ""), event(2, 0, 0, -1, 5, -1, ""), event(11, 0, -1, -1, math.MaxInt, -1, ""), event(9, 0, math.MinInt, -1, 0, -1, "")} {
		tells(t, "alone", trace(e), 1, 0)
		tells(t, "behind others", trace(read(0), compact(), e), 1, 2)
		// Ahead of all other rules.
		tells(t, "behind a panic", trace(panics(0), e), 1, 1)
		tells(t, "in a service's place", trace(makes(0, 0, 1), send(0, 0, 4, 1), e), 1, 2)
	}
}

func TestRule1IsAlsoHowLong(t *testing.T) {
	full := many(2000, compact())
	tells(t, "2000", full, 0, 0)
	tells(t, "2001", many(2001, compact()), 1, 2000)
	tells(t, "2002", many(2002, compact()), 1, 2000)
	tells(t, "2001, of which the last one is wrong", append(many(2000, compact()), api.Event{}), 1, 2000)
	tells(t, "2001, of which one ahead breaks a rule", changed(many(2001, compact()), 1999, exit(1)), 2, 1999)
	// A service is missing at the end.
	ahead := append(trace(makes(0, 0, 0)), many(1998, compact())...)
	owing := append(slices.Clone(ahead), recv(0, 0, 7, 1))
	tells(t, "a service behind 2000", owing, 4, 2000)
	// The 2001st event is there, and has a value, though nothing of it keeps a rule.
	tells(t, "its value", append(slices.Clone(owing), sent(1, 0, 7, 0)), 1, 2000)
	tells(t, "another value", append(slices.Clone(owing), sent(1, 0, 8, 0)), 5, 1999)
}

func TestRule2(t *testing.T) {
	two := trace(makes(0, 0, 1), spawn(0, 1))
	for _, c := range []struct {
		name string
		l    []api.Event
		rule int
		at   int
	}{
		{"goroutine 0 is there", trace(read(0)), 0, 0},
		{"goroutine 1 is not", trace(read(1)), 2, 0},
		{"it is behind its spawn", trace(spawn(0, 1), read(1), spawn(1, 2), spawn(0, 3), read(3)), 0, 0},
		{"a spawn of one that is there", trace(spawn(0, 0)), 2, 0},
		{"a spawn of one too far", trace(spawn(0, 2)), 2, 0},
		{"a spawn once more", trace(spawn(0, 1), spawn(0, 1)), 2, 1},
		{"an exit counts", trace(spawn(0, 1), exit(1), spawn(0, 1)), 2, 2},
		{"a spawn by nobody", trace(spawn(1, 1)), 2, 0},
		{"an exit", trace(exit(0)), 0, 0},
		{"something behind it", trace(exit(0), read(0)), 2, 1},
		{"a panic behind it", trace(exit(0), panics(0)), 2, 1},
		{"a park behind it", trace(exit(0), waits(0, -1)), 2, 1},
		{"compact behind it", trace(exit(0), compact()), 0, 0},
		{"a wait", trace(waits(0, -1), compact()), 0, 0},
		{"something in it", trace(waits(0, -1), read(0)), 2, 1},
		{"an exit in it", trace(waits(0, -1), exit(0)), 2, 1},
		{"another wait in it", trace(waits(0, -1), waits(0, -1)), 2, 1},
		{"a panic in it", trace(waits(0, -1), panics(0)), 0, 0},
		{"a panic by nobody", trace(panics(1)), 2, 0},
		{"compact behind a panic", trace(panics(0), compact()), 2, 1},
		{"another one behind a panic", trace(spawn(0, 1), panics(0), read(1)), 2, 2},
		{"another panic", trace(spawn(0, 1), panics(0), panics(1)), 2, 2},
		{"a wake of one that does not wait", behind(two, trace(send(0, 0, 4, 1), got(1, 0, 4, 0))), 2, 3},
		{"of one that is not there", behind(two, trace(send(0, 0, 4, 2), got(2, 0, 4, 0))), 2, 3},
		{"of one that exited", behind(two, trace(exit(1), send(0, 0, 4, 1), got(1, 0, 4, 0))), 2, 4},
		{"of one itself", behind(two, trace(send(0, 0, 4, 0), got(0, 0, 4, 0))), 2, 3},
		{"a second wake", behind(two, trace(waits(1, 0), send(0, 0, 4, 1), got(1, 0, 4, 0), send(0, 0, 5, 1), got(1, 0, 5, 0))), 2, 6},
		{"who was woken goes on", behind(two, trace(waits(1, 0), send(0, 0, 4, 1), got(1, 0, 4, 0), read(1), waits(1, 0), read(0))), 0, 0},
	} {
		tells(t, c.name, c.l, c.rule, c.at)
	}
}

func TestRule3(t *testing.T) {
	two := trace(makes(0, 0, 1), makes(0, 1, 0))
	for _, c := range []struct {
		name string
		l    []api.Event
		rule int
		at   int
	}{
		{"two", two, 0, 0},
		{"one too far", trace(makes(0, 1, 0)), 3, 0},
		{"once more", behind(two, trace(makes(0, 1, 0))), 3, 2},
		{"a third one", behind(two, trace(makes(0, 2, 4), waits(0, 2))), 0, 0},
		{"a send where none is", behind(two, trace(send(0, 2, 4, -1))), 3, 2},
		{"a receive where none is", trace(recv(0, 0, 4, -1)), 3, 0},
		{"nothing where none is", trace(nothing(0, 0)), 3, 0},
		{"a close where none is", behind(two, trace(closes(0, 2))), 3, 2},
		{"a wait where none is", behind(two, trace(waits(0, 511))), 3, 2},
		{"a wake where none is", behind(two, trace(spawn(0, 1), waits(1, 0), send(0, 0, 5, 1), got(1, 2, 5, 0))), 3, 5},
		{"a wait at none", trace(waits(0, -1)), 0, 0},
	} {
		tells(t, c.name, c.l, c.rule, c.at)
	}
}

func TestRule4(t *testing.T) {
	// Goroutines 1 and 2 wait; there are two channels.
	ahead := trace(makes(0, 0, 0), makes(0, 1, 1), spawn(0, 1), spawn(0, 2), waits(1, 0), waits(2, 0))
	for _, c := range []struct {
		name string
		l    []api.Event
		rule int
		at   int
	}{
		{"a send serves", trace(send(0, 0, 4, 1), got(1, 0, 4, 0)), 0, 0},
		{"it does not", trace(send(0, 0, 4, 1)), 4, 7},
		{"something else is there", trace(send(0, 0, 4, 1), read(0), got(1, 0, 4, 0)), 4, 7},
		{"compact is", trace(send(0, 0, 4, 1), compact(), got(1, 0, 4, 0)), 4, 7},
		{"a panic is", trace(send(0, 0, 4, 1), panics(0)), 4, 7},
		{"another one is woken", trace(send(0, 0, 4, 1), got(2, 0, 4, 0)), 4, 7},
		{"by another one", trace(send(0, 0, 4, 1), got(1, 0, 4, 2)), 4, 7},
		{"at another channel", trace(send(0, 0, 4, 1), got(1, 1, 4, 0)), 4, 7},
		{"as a sender", trace(send(0, 0, 4, 1), sent(1, 0, 4, 0)), 4, 7},
		{"not OK", trace(send(0, 0, 0, 1), woken(1, 0, 0)), 4, 7},
		{"with another value", trace(send(0, 0, 4, 1), got(1, 0, 5, 0)), 4, 7},
		{"by another case", trace(send(0, 0, 4, 1), event(7, 1, 0, 3, 4, 0, "K")), 0, 0},
		{"twice", trace(send(0, 0, 4, 1), got(1, 0, 4, 0), got(2, 0, 4, 0)), 4, 8},
		{"and a close's", trace(send(0, 0, 4, 1), got(1, 0, 4, 0), woken(2, 0, 0)), 4, 8},
		{"a receive serves", trace(recv(0, 0, 4, 1), sent(1, 0, 4, 0)), 0, 0},
		{"it does not", trace(recv(0, 0, 4, 1)), 4, 7},
		{"as a receiver", trace(recv(0, 0, 4, 1), got(1, 0, 4, 0)), 4, 7},
		{"another one, of a receive", trace(recv(0, 0, 4, 1), sent(2, 0, 4, 0)), 4, 7},
		{"by another one, of a receive", trace(recv(0, 0, 4, 1), sent(1, 0, 4, 1)), 4, 7},
		{"at another channel, of a receive", trace(recv(0, 0, 4, 1), sent(1, 1, 4, 0)), 4, 7},
		{"a close's, of a receive", trace(recv(0, 0, 0, 1), woken(1, 0, 0)), 4, 7},
		{"a close serves nobody", trace(closes(0, 0), read(0)), 0, 0},
		{"one", trace(closes(0, 0), woken(2, 0, 0), read(0)), 0, 0},
		{"two", trace(closes(0, 0), woken(2, 0, 0), woken(1, 0, 0), read(0)), 0, 0},
		{"by another one, of a close", trace(closes(0, 0), woken(2, 0, 1)), 4, 7},
		{"by another one, at the second", trace(closes(0, 0), woken(2, 0, 0), woken(1, 0, 2)), 4, 8},
		{"at another channel, of a close", trace(closes(0, 0), woken(2, 1, 0)), 4, 7},
		{"OK, of a close", trace(closes(0, 0), got(2, 0, 0, 0)), 4, 7},
		{"a sender, of a close", trace(closes(0, 0), sent(2, 0, 0, 0)), 4, 7},
		{"further behind", trace(closes(0, 0), compact(), woken(2, 0, 0)), 4, 8},
		{"further behind a wake", trace(closes(0, 0), woken(2, 0, 0), read(0), woken(1, 0, 0)), 4, 9},
		{"of nothing", trace(woken(1, 0, 0)), 4, 6},
		{"of a send that served nobody", trace(send(0, 1, 4, -1), got(1, 1, 4, 0)), 4, 7},
		{"of a receive of nothing", trace(closes(0, 0), nothing(0, 0), woken(1, 0, 0)), 4, 8},
	} {
		l := behind(ahead, c.l)
		tells(t, c.name, l, c.rule, c.at)
	}
	tells(t, "nobody is there to be served", trace(makes(0, 0, 0), send(0, 0, 1, 7)), 4, 2)
	tells(t, "a wake at the beginning", trace(woken(0, 0, 0)), 2, 0)
}

func TestRule5(t *testing.T) {
	// Channel 0 has no buffer, 1 has one of two; goroutines 1 and 2 wait.
	ahead := trace(makes(0, 0, 0), makes(0, 1, 2), spawn(0, 1), spawn(0, 2), waits(1, 1), waits(2, 1))
	for _, c := range []struct {
		name string
		l    []api.Event
		rule int
		at   int
	}{
		{"no buffer", trace(send(0, 0, 1, -1)), 5, 6},
		{"room", trace(send(0, 1, 1, -1), send(0, 1, 2, -1)), 0, 0},
		{"no room", trace(send(0, 1, 1, -1), send(0, 1, 2, -1), send(0, 1, 3, -1)), 5, 8},
		{"room again", trace(send(0, 1, 1, -1), send(0, 1, 2, -1), recv(0, 1, 1, -1), send(0, 1, 3, -1), recv(0, 1, 2, -1), recv(0, 1, 3, -1)), 0, 0},
		{"not the first one", trace(send(0, 1, 1, -1), send(0, 1, 2, -1), recv(0, 1, 2, -1)), 5, 8},
		{"none at the end", trace(recv(0, 1, 0, -1)), 5, 6},
		{"none", trace(recv(0, 1, 0, -1), read(0)), 5, 6},
		{"none any longer", trace(send(0, 1, 1, -1), recv(0, 1, 1, -1), recv(0, 1, 1, -1)), 5, 8},
		{"none at the other channel", trace(makes(0, 2, 1), send(0, 2, 1, -1), recv(0, 1, 1, -1)), 5, 8},
		{"handed on", trace(send(0, 1, 3, 1), got(1, 1, 3, 0), send(0, 1, 4, 2), got(2, 1, 4, 0)), 0, 0},
		{"handed on past another value", trace(send(0, 1, 2, -1), send(0, 1, 3, 1), got(1, 1, 3, 0)), 5, 7},
		{"past the same value", trace(send(0, 1, 3, -1), send(0, 1, 3, 1), got(1, 1, 3, 0), recv(0, 1, 3, -1), closes(0, 1), nothing(0, 1)), 0, 0},
		{"handed on, with no room", trace(send(0, 1, 3, -1), send(0, 1, 3, -1), send(0, 1, 3, 1), got(1, 1, 3, 0)), 0, 0},
		{"taken from who waits", trace(recv(0, 0, 3, 1), sent(1, 0, 3, 0)), 0, 0},
		{"not what he sends", trace(recv(0, 0, 3, 1), sent(1, 0, 4, 0)), 5, 6},
		{"put behind", trace(send(0, 1, 7, -1), recv(0, 1, 7, 1), sent(1, 1, 8, 0), recv(0, 1, 8, -1)), 0, 0},
		{"put behind, and taken first", trace(send(0, 1, 7, -1), recv(0, 1, 8, 1), sent(1, 1, 8, 0)), 5, 7},
		{"the next event is no service", trace(recv(0, 0, 0, 1), read(0)), 4, 7},
		{"nor has it that value", trace(recv(0, 0, 1, 1), read(0)), 5, 6},
		{"nor is it right", trace(recv(0, 0, 0, 1), api.Event{}), 1, 7},
		{"nor is its value right", trace(recv(0, 0, 9, 1), sent(1, 0, 999, 0)), 5, 6},
		{"the service is missing", trace(recv(0, 0, 9, 1)), 4, 7},
		{"it is missing behind a value", trace(send(0, 1, 7, -1), recv(0, 1, 7, 1)), 4, 8},
		{"behind another value", trace(send(0, 1, 7, -1), recv(0, 1, 8, 1)), 5, 7},
	} {
		tells(t, c.name, behind(ahead, c.l), c.rule, c.at)
	}
}

func TestRule6(t *testing.T) {
	ahead := trace(makes(0, 0, 2), makes(0, 1, 2), spawn(0, 1), waits(1, 0))
	for _, c := range []struct {
		name string
		l    []api.Event
		rule int
		at   int
	}{
		{"closed twice", trace(closes(0, 0), closes(0, 0)), 6, 5},
		{"closed both", trace(closes(0, 0), closes(0, 1)), 0, 0},
		{"a send behind it", trace(closes(0, 0), send(0, 0, 1, -1)), 6, 5},
		{"a send that serves behind it", trace(closes(0, 0), send(0, 0, 1, 1), got(1, 0, 1, 0)), 6, 5},
		{"a send at the other one", trace(closes(0, 0), send(0, 1, 1, -1)), 0, 0},
		{"what was sent ahead", trace(send(0, 0, 1, -1), closes(0, 0), recv(0, 0, 1, -1), nothing(0, 0)), 0, 0},
		{"nothing, though there is", trace(send(0, 0, 1, -1), closes(0, 0), nothing(0, 0)), 6, 6},
		{"nothing, though it is open", trace(nothing(0, 0)), 6, 4},
		{"nothing, though another is closed", trace(closes(0, 1), nothing(0, 0)), 6, 5},
		{"a receive that serves behind it", trace(closes(0, 0), recv(0, 0, 1, 1), sent(1, 0, 1, 0)), 6, 5},
		{"with a value left", trace(send(0, 0, 1, -1), closes(0, 0), recv(0, 0, 1, 1), sent(1, 0, 1, 0)), 6, 6},
		{"no room counts first", trace(send(0, 0, 1, -1), send(0, 0, 1, -1), closes(0, 0), send(0, 0, 1, -1)), 5, 7},
	} {
		tells(t, c.name, behind(ahead, c.l), c.rule, c.at)
	}
}

func TestGoroutinesAndChannels(t *testing.T) {
	const far = 1 << 40
	among := func(kind int, l ...int) []api.Event {
		events := trace(compact(), api.Event{Kind: 3, Mate: 77, Chan: 88}, api.Event{Kind: 7, Mate: 66, Chan: 99}, api.Event{Kind: 3 - kind, Mate: 44, Chan: 33})
		for _, n := range l {
			events = append(events, api.Event{Kind: kind, G: 5, Mate: n, Chan: n, Value: 9})
		}
		return events
	}
	for _, c := range []struct {
		l []int
		n int
	}{
		{nil, 0}, {[]int{0}, 1}, {[]int{3}, 4}, {[]int{5, 2}, 6}, {[]int{2, 5, 5}, 6}, {[]int{-1}, 0}, {[]int{-2}, 0}, {[]int{math.MinInt}, 0}, {[]int{-7, 1}, 2},
		{[]int{far}, 0}, {[]int{far - 1}, far}, {[]int{far, 4}, 5}, {[]int{4, far + 1}, 5}, {[]int{math.MaxInt, 511, math.MaxInt}, 512}, {[]int{far - 1, far}, far},
	} {
		spawns, makes := among(1, c.l...)[4:], among(2, c.l...)[4:]
		if n := gauge.Goroutines(spawns); n != max(c.n, 1) {
			t.Errorf("Goroutines of %v: %d", c.l, n)
		}
		if n := gauge.Channels(makes); n != c.n {
			t.Errorf("Channels of %v: %d", c.l, n)
		}
		// Other events' mates and channels don't count.
		if n := gauge.Goroutines(makes); n != 1 {
			t.Errorf("Goroutines of channels: %d", n)
		}
		if n := gauge.Channels(spawns); n != 0 {
			t.Errorf("Channels of goroutines: %d", n)
		}
		if n := gauge.Goroutines(among(1, c.l...)); n != max(c.n, 1) {
			t.Errorf("Goroutines of %v among others: %d", c.l, n)
		}
		if n := gauge.Channels(among(2, c.l...)); n != c.n {
			t.Errorf("Channels of %v among others: %d", c.l, n)
		}
	}
	if gauge.Goroutines(nil) != 1 || gauge.Channels(nil) != 0 {
		t.Errorf("of nothing: %d, %d", gauge.Goroutines(nil), gauge.Channels(nil))
	}
	// Any place of a trace counts.
	long := append(many(3000, compact()), spawn(0, 8), makes(0, 9, 1))
	if gauge.Goroutines(long) != 9 || gauge.Channels(long) != 10 {
		t.Errorf("of a long one: %d, %d", gauge.Goroutines(long), gauge.Channels(long))
	}
}

// beside has Check tell what the oracle tells: the rule.
func beside(t *testing.T, l []api.Event) int {
	t.Helper()
	rule, at := oracle(l)
	if n, i := gauge.Check(l); n != rule || i != at {
		t.Fatalf("%d, %d, not %d, %d: %v", n, i, rule, at, l)
	}
	return rule
}

// TestAllShortTraces has each list of four of these events behind a beginning.
func TestAllShortTraces(t *testing.T) {
	ways := trace(
		send(0, 0, 1, -1), send(0, 0, 1, 1), send(0, 0, 2, -1), recv(0, 0, 1, -1), recv(0, 0, 1, 1), recv(0, 0, 2, -1), nothing(0, 0), closes(0, 0),
		waits(1, 0), waits(0, 0), got(1, 0, 1, 0), sent(1, 0, 1, 0), sent(1, 0, 2, 0), woken(1, 0, 0), exit(1), panics(1), read(0), compact(), makes(0, 1, 0), spawn(0, 2),
	)
	seen := map[int]int{}
	for _, begin := range [][]api.Event{
		{makes(0, 0, 0), spawn(0, 1), waits(1, 0)}, {makes(0, 0, 1), spawn(0, 1)}, {makes(0, 0, 1), spawn(0, 1), waits(1, 0), send(0, 0, 1, -1)},
	} {
		var walk func(l []api.Event, left int)
		walk = func(l []api.Event, left int) {
			rule := beside(t, l)
			seen[rule]++
			if left == 0 || rule != 0 && rule != 4 { // a service that is missing may come still
				return
			}
			for _, e := range ways {
				walk(append(l[:len(l):len(l)], e), left-1)
			}
		}
		walk(begin, 4)
	}
	for rule := range 7 {
		if rule != 1 && seen[rule] < 100 {
			t.Errorf("rule %d is rare: %v", rule, seen)
		}
	}
}

// drawn is a script of goroutines that meet at few channels.
func drawn(r *rand.Rand) api.Script {
	s := api.Script{T: 9, M: 9, Programs: make([][]api.Op, 4)}
	s.Programs[0] = []api.Op{{Kind: 2, A: 0, B: r.Intn(3)}, {Kind: 2, A: 1, B: r.Intn(2)}, {Kind: 1, A: 1}, {Kind: 1, A: 2}, {Kind: 1, A: 3}, {Kind: 1, A: 1 + r.Intn(3)}}
	for i := range s.Programs {
		for range 8 {
			o := api.Op{Kind: 3 + r.Intn(6), A: r.Intn(2)}
			switch o.Kind {
			case 3:
				o.B = r.Intn(3)
			case 5:
				if r.Intn(3) > 0 {
					o.Kind = 4
				}
			case 6:
				o.A, o.Default = 0, r.Intn(4) == 0
				for range 1 + r.Intn(3) {
					o.Cases = append(o.Cases, []api.Case{{Chan: r.Intn(2)}, {Send: true, Chan: r.Intn(2), Value: r.Intn(3)}}[r.Intn(2)])
				}
			}
			s.Programs[i] = append(s.Programs[i], o)
		}
	}
	for range r.Intn(60) {
		s.Plan = append(s.Plan, r.Intn(12)-1)
	}
	for range r.Intn(9) {
		s.Draws = append(s.Draws, r.Intn(4))
	}
	return s
}

// TestTracesOfRuns: each keeps all rules; so does each beginning, but that a service may be missing at its end.
func TestTracesOfRuns(t *testing.T) {
	r := rand.New(rand.NewSource(14))
	wakes, verdicts := 0, map[int]int{}
	for range 3000 {
		l, verdict := loom.Run(drawn(r))
		verdicts[verdict]++
		for n := range len(l) + 1 {
			rule, at := gauge.Check(l[:n:n])
			switch {
			case n > 0 && n < len(l) && serves(l[n-1]):
				if rule != 4 || at != n {
					t.Fatalf("without its service: %d, %d: %v", rule, at, l[:n])
				}
				wakes++
			case rule != 0 || at != 0:
				t.Fatalf("%d, %d: %v", rule, at, l[:n])
			}
		}
		if n := len(l); n > 0 && serves(l[n-1]) {
			t.Fatalf("a trace ends with a service missing: %v", l)
		}
		spawned, _ := some(l, of(1))
		made, _ := some(l, of(2))
		if gauge.Goroutines(l) != spawned+1 || gauge.Channels(l) != made {
			t.Fatalf("%d, %d, not %d, %d", gauge.Goroutines(l), gauge.Channels(l), spawned+1, made)
		}
	}
	if wakes < 1000 || verdicts[api.Deadlock] < 20 || verdicts[api.Panicked] < 20 || verdicts[api.Spent] < 20 {
		t.Errorf("the drawn scripts reach too little: %d services, verdicts %v", wakes, verdicts)
	}
}

// spoilt is a trace with one change.
func spoilt(r *rand.Rand, l []api.Event) []api.Event {
	l = slices.Clone(l)
	at := r.Intn(len(l))
	e := &l[at]
	switch r.Intn(9) {
	case 0:
		return slices.Delete(l, at, at+1)
	case 1:
		return slices.Insert(l, at, l[r.Intn(len(l))])
	case 2:
		other := r.Intn(len(l))
		l[at], l[other] = l[other], l[at]
	case 3:
		e.Send = !e.Send
	case 4:
		e.OK = !e.OK
	default:
		fields := []*int{&e.Kind, &e.G, &e.Chan, &e.Value, &e.Mate, &e.Case}
		*fields[r.Intn(len(fields))] = []int{-2, -1, 0, 1, 2, 3, 4, 511, 512, math.MaxInt, math.MinInt}[r.Intn(11)]
	}
	return l
}

func TestSpoiltTraces(t *testing.T) {
	r := rand.New(rand.NewSource(41))
	seen := map[int]int{}
	for range 3000 {
		l, _ := loom.Run(drawn(r))
		if len(l) == 0 {
			continue
		}
		for range 12 {
			x := spoilt(r, l)
			kept := slices.Clone(x)
			seen[beside(t, x)]++
			if !slices.Equal(x, kept) {
				t.Fatalf("what was handed in is %v, was %v", x, kept)
			}
			seen[beside(t, spoilt(r, append(x, compact())))]++
		}
	}
	for rule := range 7 {
		if seen[rule] < 100 {
			t.Errorf("rule %d is rare: %v", rule, seen)
		}
	}
}
