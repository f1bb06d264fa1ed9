package stamp_test

import (
	"math"
	"math/rand"
	"slices"
	"testing"

	"staithe/api"
	"staithe/gauge"
	"staithe/stamp"
)

// spoilt is an event with one change.
func spoilt(r *rand.Rand, e api.Event) api.Event {
	switch r.Intn(9) {
	case 0:
		e.Send = !e.Send
	case 1:
		e.OK = !e.OK
	default:
		fields := []*int{&e.Kind, &e.G, &e.Chan, &e.Value, &e.Mate, &e.Case}
		*fields[r.Intn(len(fields))] = []int{-2, -1, 0, 1, 2, 3, 4, 511, 512, math.MaxInt, math.MinInt}[r.Intn(11)]
	}
	return e
}

// TestWhatBreaksARule: at each place of runs, events that may not stand there; behind them the run goes on as if they never
// had been.
func TestWhatBreaksARule(t *testing.T) {
	r := rand.New(rand.NewSource(172))
	broken := map[int]int{}
	for range 200 {
		l := drawn(t, r)
		s, other := fresh(t, 256, 1<<20), fresh(t, 256, 1<<20)
		for i, e := range l {
			for range 6 {
				wrong := []api.Event{spoilt(r, e), l[r.Intn(len(l))], spoilt(r, l[r.Intn(len(l))])}[r.Intn(3)]
				more := append(slices.Clone(l[:i]), wrong)
				rule, at := gauge.Check(more)
				if rule == 0 || rule == 4 && at == len(more) {
					continue
				}
				broken[rule]++
				refuse(t, s, wrong, api.ErrForm)
			}
			want, _ := other.Note(e)
			if got, errno := s.Note(e); errno != api.OK || got.Epoch != want.Epoch || !slices.Equal(got.Clock, want.Clock) || look(s) != look(other) {
				t.Fatalf("%d: %v, %v, not %v", i, got, errno, want)
			}
		}
	}
	for rule := 1; rule <= 6; rule++ {
		if broken[rule] < 20 {
			t.Errorf("rule %d is rare: %v", rule, broken)
		}
	}
}

// TestAValueThatTheServiceSpoils: the receive itself breaks a rule then, but only when its Wake is there.
func TestAValueThatTheServiceSpoils(t *testing.T) {
	s := fresh(t, 9, 99)
	note(t, s, makes(0, 0, 0), 0, 1)
	note(t, s, spawn(0, 1), 0, 1)
	note(t, s, offers(1, 0, 5), 1, 1, 1)
	note(t, s, recv(0, 0, 5, 1), 0, 2, 1)
	refuse(t, s, sent(1, 0, 6, 0), api.ErrForm)
	refuse(t, s, compact(), api.ErrForm)
	note(t, s, sent(1, 0, 5, 0), 1, 2, 2)
}

func TestTheLongestTrace(t *testing.T) {
	l := slices.Repeat([]api.Event{compact()}, 2001)
	if x, errno := stamp.All(l[:2000], 1, 1); len(x) != 2000 || errno != api.OK {
		t.Errorf("2000: %d, %v", len(x), errno)
	}
	if x, errno := stamp.All(l, 1, 1); len(x) != 0 || errno != api.ErrForm {
		t.Errorf("2001: %d, %v", len(x), errno)
	}
	s := fresh(t, 1, 1)
	for range 2000 {
		s.Note(compact())
	}
	for _, e := range []api.Event{compact(), read(0), spawn(0, 1), {}} {
		refuse(t, s, e, api.ErrForm)
	}
	if s.Len() != 2000 {
		t.Errorf("Len: %d", s.Len())
	}
}

// TestNoTidIsFree: a spawn is refused, all else goes on.
func TestNoTidIsFree(t *testing.T) {
	for tids := 1; tids <= 4; tids++ {
		s := fresh(t, tids, 99)
		for g := 1; g < tids; g++ {
			note(t, s, spawn(0, g), 0, g)
		}
		refuse(t, s, spawn(0, tids), api.ErrFull)
		refuse(t, s, spawn(0, tids), api.ErrFull)
		refuse(t, s, spawn(0, tids+1), api.ErrForm) // ahead of ErrFull
		note(t, s, makes(0, 0, 1), 0, tids)
		note(t, s, send(0, 0, 5, -1), 0, tids)
		note(t, s, read(0), 0, tids+1)
	}
}

// TestWhoCannotTell: its own number is the greatest one; what does not tell goes on.
func TestWhoCannotTell(t *testing.T) {
	for most := 1; most <= 3; most++ {
		s := fresh(t, 3, most)
		note(t, s, makes(0, 0, 4), 0, 1)
		for n := 1; n < most; n++ {
			note(t, s, send(0, 0, 5, -1), 0, n)
		}
		for _, e := range []api.Event{send(0, 0, 5, -1), spawn(0, 1), closes(0, 0), waits(0, 0), offers(0, -1, 3), chooses(0, 0)} {
			refuse(t, s, e, api.ErrFull)
		}
		if most > 1 {
			refuse(t, s, recv(0, 0, 5, -1), api.ErrFull)
		}
		refuse(t, s, recv(0, 0, 9, -1), api.ErrForm) // ahead of ErrFull
		for _, e := range []api.Event{makes(0, 1, 0), read(0), write(0), defaults(0), exit(0)} {
			note(t, s, e, 0, most)
		}
		note(t, s, compact(), -1)
	}
}

// TestServicesThatCannotTell: what a server would have fetched and given stays as it was.
func TestServicesThatCannotTell(t *testing.T) {
	for size := range 2 {
		s := fresh(t, 3, 3)
		note(t, s, makes(0, 0, size), 0, 1)
		note(t, s, spawn(0, 1), 0, 1)
		note(t, s, spawn(0, 2), 0, 2)
		for n := range size {
			note(t, s, send(2, 0, 5, -1), 2, 2, 0, n+1)
		}
		note(t, s, offers(1, 0, 5), 1, 1, 1)
		refuse(t, s, recv(0, 0, 5, 1), api.ErrFull)
		known := []int{2, 1, 1 + size}
		if size > 0 {
			known[1] = 0
		}
		note(t, s, recv(2, 0, 5, 1), 2, known...)
		note(t, s, sent(1, 0, 5, 2), 1, 2, 2, 1+size)

		s = fresh(t, 3, 3)
		note(t, s, makes(0, 0, size), 0, 1)
		note(t, s, spawn(0, 1), 0, 1)
		note(t, s, spawn(0, 2), 0, 2)
		note(t, s, waits(1, 0), 1, 1, 1)
		refuse(t, s, send(0, 0, 5, 1), api.ErrFull)
		note(t, s, closes(2, 0), 2, 2, 0, 1)
		refuse(t, s, nothing(0, 0), api.ErrFull)
		note(t, s, woken(1, 0, 2), 1, 2, 2, 1)
	}
}

// TestLimitsInRuns: the first event that has no room is the one that counting tells; ahead of it all is as without limits.
func TestLimitsInRuns(t *testing.T) {
	r := rand.New(rand.NewSource(173))
	spawns, clocks, none := 0, 0, 0
	for range 600 {
		l := drawn(t, r)
		tids, most := 1+r.Intn(7), 1+r.Intn(12)
		m := modelOf(l)
		count, end := 1, len(l)
		for i, e := range l {
			if e.Kind == api.EvSpawn && count == tids {
				spawns++
				end = i
				break
			}
			if tells(e) && m.number[i] == most {
				clocks++
				end = i
				break
			}
			if e.Kind == api.EvSpawn {
				count++
			}
		}
		s := fresh(t, tids, most)
		for i, e := range l[:end] {
			asks(t, s, l[:i], tids, most)
			if x, errno := s.Note(e); errno != api.OK || !same(x, e.G, trimmed(m.knows[i])) {
				t.Fatalf("%d: %v, %v, not %v", i, x, errno, m.knows[i])
			}
		}
		if x, errno := stamp.All(l[:end], tids, most); len(x) != end || errno != api.OK {
			t.Fatalf("%d of %d, %v", len(x), end, errno)
		}
		if end == len(l) {
			none++
			continue
		}
		refuse(t, s, l[end], api.ErrFull)
		if x, errno := stamp.All(l, tids, most); len(x) != 0 || errno != api.ErrFull {
			t.Fatalf("%v, %v", x, errno)
		}
	}
	if spawns < 50 || clocks < 50 || none < 20 {
		t.Errorf("%d for want of a tid, %d of a clock, %d whole", spawns, clocks, none)
	}
}

// asks holds Can against counting, behind the events of l.
func asks(t *testing.T, s *stamp.Stamper, l []api.Event, tids, most int) {
	t.Helper()
	count, numbers := 1, map[int]int{}
	for _, e := range l {
		if e.Kind == api.EvSpawn {
			count++
		}
		if tells(e) {
			numbers[e.G]++
		}
	}
	for g := -2; g <= count+1; g++ {
		there, below := g >= 0 && g < count, numbers[g]+1 < most
		for i := range 4 {
			spawns, telling := i%2 == 1, i/2 == 1
			want := there && (!spawns || count < tids) && (!telling || below)
			if s.Can(g, spawns, telling) != want {
				t.Fatalf("Can(%d, %t, %t): not %t", g, spawns, telling, want)
			}
		}
	}
}
