package stamp_test

import (
	"fmt"
	"math"
	"slices"
	"testing"

	"staithe/api"
	"staithe/clock"
	"staithe/epoch"
	"staithe/stamp"
	"staithe/watch"
)

// event is one whose fields are told in the order of api's, with the letters S for Send, K for OK.
func event(kind, g, channel, at, value, mate int, flags string) api.Event {
	return api.Event{Kind: kind, G: g, Chan: channel, Case: at, Value: value, Mate: mate, Send: flags == "S" || flags == "SK", OK: flags == "K" || flags == "SK"}
}

func spawn(g, mate int) api.Event            { return event(1, g, -1, -1, 0, mate, "") }
func makes(g, channel, size int) api.Event   { return event(2, g, channel, -1, size, -1, "") }
func send(g, channel, v, mate int) api.Event { return event(3, g, channel, -1, v, mate, "S") }
func recv(g, channel, v, mate int) api.Event { return event(4, g, channel, -1, v, mate, "K") }
func nothing(g, channel int) api.Event       { return event(4, g, channel, -1, 0, -1, "") }
func closes(g, channel int) api.Event        { return event(5, g, channel, -1, -1, -1, "") }
func waits(g, channel int) api.Event         { return event(6, g, channel, -1, 0, -1, "") }
func offers(g, channel, v int) api.Event     { return event(6, g, channel, -1, v, -1, "S") }
func chooses(g, cases int) api.Event         { return event(6, g, -1, cases, 0, -1, "") }
func sent(g, channel, v, mate int) api.Event { return event(7, g, channel, -1, v, mate, "SK") }
func got(g, channel, v, mate int) api.Event  { return event(7, g, channel, -1, v, mate, "K") }
func woken(g, channel, mate int) api.Event   { return event(7, g, channel, -1, 0, mate, "") }
func defaults(g int) api.Event               { return event(8, g, -1, -1, -1, -1, "") }
func read(g int) api.Event                   { return event(9, g, -1, -1, 0, -1, "") }
func write(g int) api.Event                  { return event(10, g, -1, -1, 0, -1, "") }
func exit(g int) api.Event                   { return event(11, g, -1, -1, -1, -1, "") }
func panics(g int) api.Event                 { return event(12, g, -1, -1, -1, -1, "") }
func compact() api.Event                     { return event(13, -1, -1, -1, -1, -1, "") }

func fresh(t *testing.T, tids, most int) *stamp.Stamper {
	t.Helper()
	s, errno := stamp.New(tids, most)
	if s == nil || errno != api.OK {
		t.Fatalf("New(%d, %d): %v", tids, most, errno)
	}
	return s
}

// same tells whether a stamp is that of a tid (-1: of nobody) with these numbers, its own one among them.
func same(x stamp.Stamp, tid int, numbers []int) bool {
	own := epoch.None
	if tid >= 0 {
		own, _ = epoch.Pack(tid, numbers[tid])
	}
	return x.Epoch == own && slices.Equal(x.Clock, numbers)
}

// note has an event be noted, with this stamp.
func note(t *testing.T, s *stamp.Stamper, e api.Event, tid int, numbers ...int) {
	t.Helper()
	if x, errno := s.Note(e); errno != api.OK || !same(x, tid, numbers) {
		t.Errorf("%v: tid %d at %d, %v, %v; not tid %d, %v", e, x.Epoch.Tid(), x.Epoch.Clock(), x.Clock, errno, tid, numbers)
	}
}

func refuse(t *testing.T, s *stamp.Stamper, e api.Event, want api.Errno) {
	t.Helper()
	before := look(s)
	if x, errno := s.Note(e); errno != want || x.Epoch != epoch.None || x.Clock != nil {
		t.Errorf("%v: %v, %v, not %v", e, x, errno, want)
	}
	if after := look(s); after != before {
		t.Errorf("%v: %v, and it is\n%s, was\n%s", e, want, after, before)
	}
}

func lists(l []*clock.Clock) [][]int {
	out := [][]int{}
	for _, c := range l {
		out = append(out, c.List())
	}
	return out
}

func holds(t *testing.T, s *stamp.Stamper, want ...[]int) {
	t.Helper()
	if got := lists(s.Held()); !slices.EqualFunc(got, want, slices.Equal) {
		t.Errorf("Held: %v, not %v", got, want)
	}
}

// look is all that can be asked of a stamper without changing it.
func look(s *stamp.Stamper) string {
	w := s.Watch()
	text := fmt.Sprint(s.Len(), lists(s.Held()), w.InUse(), w.Room())
	for _, g := range w.All() {
		c, _ := w.Clock(g)
		tid, _ := w.Tid(g)
		text += fmt.Sprint(" / ", g, tid, w.Epoch(g), c.List(), w.Can(g))
	}
	return text
}

func TestNew(t *testing.T) {
	numbers := []int{math.MinInt, -1, 0, 1, 2, 255, 256, 257, 1<<20 - 1, 1 << 20, 1<<20 + 1, math.MaxInt}
	for _, tids := range numbers {
		for _, most := range numbers {
			want := api.OK
			if tids < 1 || tids > 256 || most < 1 || most > 1<<20 {
				want = api.ErrArg
			}
			s, errno := stamp.New(tids, most)
			if errno != want || (s == nil) != (want != api.OK) {
				t.Errorf("New(%d, %d): %v, %v", tids, most, s, errno)
			}
			l, errno := stamp.All([]api.Event{compact(), {}}, tids, most)
			if want == api.OK {
				want = api.ErrForm
			}
			if errno != want || len(l) != 0 {
				t.Errorf("All of what is no trace, %d, %d: %v, %v", tids, most, l, errno)
			}
		}
	}
	s := fresh(t, 3, 9)
	if s.Len() != 0 || len(s.Held()) != 0 || !slices.Equal(s.Watch().All(), []int{0}) || s.Watch().Epoch(0).Clock() != 1 {
		t.Errorf("New: %s", look(s))
	}
}

func TestExample(t *testing.T) {
	s := fresh(t, 9, 99)
	note(t, s, spawn(0, 1), 0, 1)
	note(t, s, read(1), 1, 1, 1)
	note(t, s, read(0), 0, 2)
}

// TestKindsThatNeitherFetchNorTell: their stamps are one and the same.
func TestKindsThatNeitherFetchNorTell(t *testing.T) {
	s := fresh(t, 2, 2)
	for range 3 {
		for _, e := range []api.Event{makes(0, s.Len()/6, 1), read(0), write(0), defaults(0)} {
			note(t, s, e, 0, 1)
		}
		note(t, s, compact(), -1)
		note(t, s, read(0), 0, 1)
	}
	holds(t, s)
	if s.Len() != 18 {
		t.Errorf("Len: %d", s.Len())
	}
	note(t, s, spawn(0, 1), 0, 1)
	note(t, s, exit(1), 1, 1, 1)
	note(t, s, panics(0), 0, 2)
	if s.Len() != 21 || s.Watch().Epoch(0).Clock() != 2 || s.Watch().Epoch(1).Clock() != 1 {
		t.Errorf("%s", look(s))
	}
}

func TestACapacityOf0WhereTheReceiverWaits(t *testing.T) {
	s := fresh(t, 9, 99)
	note(t, s, makes(0, 0, 0), 0, 1)
	note(t, s, spawn(0, 1), 0, 1)
	note(t, s, waits(0, 0), 0, 2)
	holds(t, s, []int{2})
	note(t, s, send(1, 0, 5, 0), 1, 2, 1)
	holds(t, s, []int{2}) // 0 waits until it wakes
	note(t, s, got(0, 0, 5, 1), 0, 3, 1)
	holds(t, s)
	note(t, s, read(1), 1, 2, 2)
	note(t, s, read(0), 0, 3, 1)
}

func TestACapacityOf0WhereTheSenderWaits(t *testing.T) {
	s := fresh(t, 9, 99)
	note(t, s, makes(0, 0, 0), 0, 1)
	note(t, s, spawn(0, 1), 0, 1)
	note(t, s, offers(1, 0, 5), 1, 1, 1)
	note(t, s, write(0), 0, 2)
	note(t, s, recv(0, 0, 5, 1), 0, 2, 1)
	note(t, s, sent(1, 0, 5, 0), 1, 2, 2)
	holds(t, s)
	note(t, s, read(0), 0, 3, 1)
}

func TestABufferOf1(t *testing.T) {
	s := fresh(t, 9, 99)
	note(t, s, makes(0, 0, 1), 0, 1)
	note(t, s, spawn(0, 1), 0, 1)
	note(t, s, send(0, 0, 5, -1), 0, 2)
	holds(t, s, []int{2})
	note(t, s, recv(1, 0, 5, -1), 1, 2, 1)
	holds(t, s, []int{2, 1})
	note(t, s, read(1), 1, 2, 2)
	note(t, s, send(0, 0, 6, -1), 0, 3, 1)
	holds(t, s, []int{3, 1})
	note(t, s, offers(0, 0, 7), 0, 4, 1)
	holds(t, s, []int{3, 1}, []int{4, 1})
	// 1 makes room for 0, which knows of that when it wakes; 1 does not know that 0 waited.
	note(t, s, recv(1, 0, 6, 0), 1, 3, 2)
	holds(t, s, []int{4, 1}, []int{4, 1})
	note(t, s, sent(0, 0, 7, 1), 0, 5, 2)
	holds(t, s, []int{4, 1})
	note(t, s, recv(1, 0, 7, -1), 1, 4, 3)
	holds(t, s, []int{4, 3})
	// A receiver that waits: the send knows of the receive that made room, not of the waiting.
	note(t, s, waits(1, 0), 1, 4, 4)
	note(t, s, send(0, 0, 8, 1), 0, 5, 3)
	holds(t, s, []int{4, 4}, []int{4, 4})
	note(t, s, got(1, 0, 8, 0), 1, 5, 5)
	holds(t, s, []int{4, 4})
	note(t, s, send(0, 0, 9, -1), 0, 6, 4)
	holds(t, s, []int{6, 4})
}

func TestClosing(t *testing.T) {
	s := fresh(t, 9, 99)
	note(t, s, makes(0, 0, 1), 0, 1)
	note(t, s, spawn(0, 1), 0, 1)
	note(t, s, spawn(0, 2), 0, 2)
	note(t, s, waits(1, 0), 1, 1, 1)
	note(t, s, waits(2, 0), 2, 2, 0, 1)
	note(t, s, closes(0, 0), 0, 3)
	holds(t, s, []int{3}, []int{1, 1}, []int{2, 0, 1})
	note(t, s, woken(1, 0, 0), 1, 3, 2)
	holds(t, s, []int{3}, []int{2, 0, 1})
	note(t, s, woken(2, 0, 0), 2, 3, 0, 2)
	holds(t, s, []int{3})
	// A receive that is not OK tells, but nobody hears it.
	note(t, s, read(0), 0, 4)
	note(t, s, nothing(0, 0), 0, 4)
	note(t, s, nothing(0, 0), 0, 5)
	note(t, s, nothing(1, 0), 1, 3, 2)
	note(t, s, read(1), 1, 3, 3)
	holds(t, s, []int{3})
}

// TestValuesBehindAClosing: they tell what their sends told, not what the closing did.
func TestValuesBehindAClosing(t *testing.T) {
	s := fresh(t, 9, 99)
	note(t, s, makes(0, 0, 2), 0, 1)
	note(t, s, spawn(0, 1), 0, 1)
	note(t, s, send(0, 0, 5, -1), 0, 2)
	note(t, s, send(0, 0, 6, -1), 0, 3)
	note(t, s, closes(0, 0), 0, 4)
	holds(t, s, []int{2}, []int{3}, []int{4})
	note(t, s, recv(1, 0, 5, -1), 1, 2, 1)
	note(t, s, recv(1, 0, 6, -1), 1, 3, 2)
	holds(t, s, []int{2, 1}, []int{3, 2}, []int{4})
	note(t, s, nothing(1, 0), 1, 4, 3)
}

func TestWaitingForSeveralAndForNothing(t *testing.T) {
	s := fresh(t, 9, 99)
	note(t, s, makes(0, 0, 0), 0, 1)
	note(t, s, makes(0, 1, 3), 0, 1)
	note(t, s, spawn(0, 1), 0, 1)
	note(t, s, spawn(1, 2), 1, 1, 1)
	note(t, s, waits(2, -1), 2, 1, 1, 1) // of a nil channel: for ever
	note(t, s, chooses(1, 3), 1, 1, 2)
	holds(t, s, []int{1, 2}, []int{1, 1, 1})
	served := event(7, 1, 0, 2, 5, 0, "K")
	note(t, s, send(0, 0, 5, 1), 0, 2, 2)
	note(t, s, served, 1, 2, 3)
	holds(t, s, []int{1, 1, 1})
	note(t, s, panics(0), 0, 3, 2)
	holds(t, s, []int{1, 1, 1})
}

// TestHeldByChannelsThenByWaiters: whichever was made, or began to wait, first.
func TestHeldByChannelsThenByWaiters(t *testing.T) {
	s := fresh(t, 9, 99)
	for _, e := range []api.Event{makes(0, 0, 4), makes(0, 1, 4), spawn(0, 1), spawn(0, 2), waits(2, -1), waits(1, -1),
		send(0, 1, 5, -1), send(0, 0, 6, -1), send(0, 1, 7, -1), closes(0, 0)} {
		if _, errno := s.Note(e); errno != api.OK {
			t.Fatalf("%v: %v", e, errno)
		}
	}
	holds(t, s, []int{4}, []int{6}, []int{3}, []int{5}, []int{1, 1}, []int{2, 0, 1})
}

func TestNilStamper(t *testing.T) {
	var s *stamp.Stamper
	for _, e := range []api.Event{{}, read(0), compact(), spawn(0, 1)} {
		if x, errno := s.Note(e); x.Epoch != epoch.None || x.Clock != nil || errno != api.ErrState {
			t.Errorf("Note(%v): %v, %v", e, x, errno)
		}
	}
	for _, g := range []int{math.MinInt, -1, 0, 1, math.MaxInt} {
		if errno := s.Retire(g); errno != api.ErrNone {
			t.Errorf("Retire(%d): %v", g, errno)
		}
		for i := range 4 {
			if s.Can(g, i%2 == 1, i/2 == 1) {
				t.Errorf("Can(%d)", g)
			}
		}
	}
	if len(s.Held()) != 0 || s.Watch() != nil || s.Len() != 0 {
		t.Errorf("%v, %v, %d", s.Held(), s.Watch(), s.Len())
	}
}

func TestAllOfNothing(t *testing.T) {
	for _, l := range [][]api.Event{nil, {}} {
		if x, errno := stamp.All(l, 1, 1); len(x) != 0 || errno != api.OK {
			t.Errorf("%v, %v", x, errno)
		}
	}
}

// TestWatchIsTheStampersOwn: what is done to it is seen, and it sees what is noted.
func TestWatchIsTheStampersOwn(t *testing.T) {
	s := fresh(t, 3, 9)
	w := s.Watch()
	note(t, s, spawn(0, 1), 0, 1)
	if w != s.Watch() || !slices.Equal(w.All(), []int{0, 1}) {
		t.Errorf("All: %v", w.All())
	}
	known, _ := clock.Of([]int{0, 0, 7})
	if errno := w.Know(1, known); errno != api.OK {
		t.Error(errno)
	}
	note(t, s, read(1), 1, 1, 1, 7)
}

// TestAWatchThatWasChanged: whatever others did to the watch, Note has no errors but its own, and goes on.
func TestAWatchThatWasChanged(t *testing.T) {
	s := fresh(t, 3, 9)
	if tid, errno := s.Watch().Spawn(0, 1); tid != 1 || errno != api.OK {
		t.Fatalf("%d, %v", tid, errno)
	}
	note(t, s, spawn(0, 1), 0, 1) // 1 has its tid already
	note(t, s, read(1), 1, 1, 1)
	note(t, s, makes(0, 0, 0), 0, 2)
	note(t, s, waits(0, 0), 0, 2)
	known, _ := clock.Of([]int{9})
	s.Watch().Know(1, known) // more than 0 ever told
	note(t, s, send(1, 0, 5, 0), 1, 9, 1)
	note(t, s, got(0, 0, 5, 1), 0, 9, 1)
	refuse(t, s, waits(0, 0), api.ErrFull)
	note(t, s, read(0), 0, 9, 1)
	for _, g := range []int{0, 1} {
		s.Watch().Retire(g)
		note(t, s, read(g), -1)
		refuse(t, s, closes(g, 0), api.ErrFull)
	}
}

// TestNothingIsShared: answers are new memory, spare room too.
func TestNothingIsShared(t *testing.T) {
	trace := []api.Event{makes(0, 0, 1), spawn(0, 1), send(0, 0, 5, -1), recv(1, 0, 5, -1), send(0, 0, 6, -1), read(0), waits(1, -1)}
	spoil := func(x stamp.Stamp) {
		l := x.Clock[:cap(x.Clock)]
		for i := range l {
			l[i] = 77
		}
	}
	s, other := fresh(t, 9, 99), fresh(t, 9, 99)
	for i, e := range trace {
		want, _ := other.Note(e)
		got, errno := s.Note(e)
		if errno != api.OK || got.Epoch != want.Epoch || !slices.Equal(got.Clock, want.Clock) {
			t.Fatalf("%d: %v, %v, not %v", i, got, errno, want)
		}
		spoil(got)
		for _, c := range s.Held() {
			c.Set(0, 88)
			c.Tick(5, 9)
		}
		if look(s) != look(other) {
			t.Fatalf("%d: %s, not %s", i, look(s), look(other))
		}
	}
	kept := slices.Clone(trace)
	x, _ := stamp.All(trace, 9, 99)
	spoil(x[5])
	y, _ := stamp.All(trace, 9, 99)
	if !slices.Equal(trace, kept) || !slices.Equal(x[4].Clock, y[4].Clock) || !slices.Equal(x[6].Clock, y[6].Clock) || !slices.Equal(y[5].Clock, []int{4, 1}) {
		t.Errorf("%v, %v", x, y)
	}
}

// TestStampersAreApart: what one notes another one does not see.
func TestStampersAreApart(t *testing.T) {
	a, b := fresh(t, 9, 99), fresh(t, 2, 3)
	before := look(b)
	note(t, a, makes(0, 0, 1), 0, 1)
	note(t, a, spawn(0, 1), 0, 1)
	note(t, a, send(0, 0, 5, -1), 0, 2)
	if look(b) != before {
		t.Errorf("%s, not %s", look(b), before)
	}
	var none *watch.Watch
	if a.Watch() == b.Watch() || b.Watch() == none {
		t.Error("one watch")
	}
}
