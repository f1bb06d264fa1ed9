package stamp_test

import (
	"math"
	"math/rand"
	"slices"
	"testing"

	"staithe/api"
	"staithe/stamp"
)

func retire(t *testing.T, s *stamp.Stamper, g int, want api.Errno) {
	t.Helper()
	before := look(s)
	if errno := s.Retire(g); errno != want {
		t.Errorf("Retire(%d): %v, not %v", g, errno, want)
	}
	if after := look(s); want != api.OK && after != before {
		t.Errorf("Retire(%d): %v, and it is %s, was %s", g, want, after, before)
	}
}

func TestRetireOfNobody(t *testing.T) {
	s := fresh(t, 3, 9)
	note(t, s, spawn(0, 1), 0, 1)
	for _, g := range []int{math.MinInt, -1, 2, 255, 256, math.MaxInt} {
		retire(t, s, g, api.ErrNone)
	}
	retire(t, s, 1, api.OK)
	retire(t, s, 1, api.ErrNone)
}

// TestRetiredInAllClocks: in goroutines', in slots', in waiting ones', in that of closing, and in what is to be known yet.
func TestRetiredInAllClocks(t *testing.T) {
	s := fresh(t, 4, 99)
	note(t, s, makes(0, 0, 2), 0, 1)
	note(t, s, makes(0, 1, 0), 0, 1)
	note(t, s, makes(0, 2, 1), 0, 1)
	note(t, s, spawn(0, 1), 0, 1)
	note(t, s, spawn(0, 2), 0, 2)
	note(t, s, send(1, 0, 5, -1), 1, 1, 1)
	note(t, s, send(1, 0, 6, -1), 1, 1, 2)
	note(t, s, exit(1), 1, 1, 3)
	note(t, s, recv(0, 0, 5, -1), 0, 3, 1)
	note(t, s, closes(0, 2), 0, 4, 1)
	note(t, s, waits(0, 1), 0, 5, 1)
	note(t, s, send(2, 1, 7, 0), 2, 5, 1, 1)
	holds(t, s, []int{1, 2}, []int{3, 1}, []int{4, 1}, []int{5, 1})
	length := s.Len()
	retire(t, s, 1, api.OK)
	if s.Len() != length || !slices.Equal(s.Watch().All(), []int{0, 2}) {
		t.Errorf("%s", look(s))
	}
	holds(t, s, []int{1}, []int{3}, []int{4}, []int{5})
	note(t, s, got(0, 1, 7, 2), 0, 6, 0, 1)
	note(t, s, spawn(2, 3), 2, 5, 0, 2) // the tid 1 is given again
	note(t, s, recv(3, 0, 6, -1), 1, 5, 1, 2)
	note(t, s, nothing(2, 2), 2, 5, 0, 3)
	note(t, s, read(0), 0, 6, 0, 1)
}

// TestWhatIsDueForgets: of a receiver that was served by one that is retired ahead of the Wake.
func TestWhatIsDueForgets(t *testing.T) {
	for size := range 2 {
		s := fresh(t, 2, 99)
		note(t, s, makes(0, 0, size), 0, 1)
		note(t, s, spawn(0, 1), 0, 1)
		note(t, s, waits(0, 0), 0, 2)
		server := []int{2, 1}
		if size > 0 {
			server = []int{1, 1}
		}
		note(t, s, send(1, 0, 7, 0), 1, server...)
		retire(t, s, 1, api.OK)
		note(t, s, got(0, 0, 7, 1), 0, 3)
	}
	s := fresh(t, 2, 99)
	note(t, s, makes(0, 0, 0), 0, 1)
	note(t, s, spawn(0, 1), 0, 1)
	note(t, s, offers(0, 0, 7), 0, 2)
	note(t, s, recv(1, 0, 7, 0), 1, 2, 1)
	retire(t, s, 1, api.OK)
	note(t, s, sent(0, 0, 7, 1), 0, 3)
}

// TestWhoIsRetiredAheadOfItsExit: it has no epoch, knows nothing, and cannot tell.
func TestWhoIsRetiredAheadOfItsExit(t *testing.T) {
	s := fresh(t, 3, 99)
	note(t, s, makes(0, 0, 0), 0, 1)
	note(t, s, spawn(0, 1), 0, 1)
	note(t, s, spawn(0, 2), 0, 2)
	note(t, s, waits(1, 0), 1, 1, 1)
	retire(t, s, 1, api.OK)
	holds(t, s, []int{1}) // it waits still
	if s.Can(1, false, false) || !s.Can(0, true, true) {
		t.Error("Can")
	}
	note(t, s, spawn(0, 3), 0, 3)
	note(t, s, send(0, 0, 5, 1), 0, 4)
	note(t, s, got(1, 0, 5, 0), -1)
	holds(t, s)
	for _, e := range []api.Event{spawn(1, 4), closes(1, 0), waits(1, 0)} {
		refuse(t, s, e, api.ErrFull)
	}
	for _, e := range []api.Event{read(1), makes(1, 1, 0), defaults(1), exit(1)} {
		note(t, s, e, -1)
	}
	note(t, s, read(3), 1, 3, 1)
	retire(t, s, 0, api.OK)
	refuse(t, s, spawn(0, 4), api.ErrFull)
	note(t, s, spawn(3, 4), 1, 0, 1)
	note(t, s, read(4), 0, 1, 1)
}

// tenants is which tid each goroutine has, the least free one given; -1: it is retired.
type tenants struct{ tids []int }

func (x *tenants) born() {
	tid := 0
	for slices.Contains(x.tids, tid) {
		tid++
	}
	x.tids = append(x.tids, tid)
}

// seen is what is known of each goroutine, by the tids of those that are not retired.
func (x *tenants) seen(knows []int) []int {
	l := make([]int, 256)
	for g, tid := range x.tids {
		if tid >= 0 && g < len(knows) {
			l[tid] = knows[g]
		}
	}
	return trimmed(l)
}

// TestRetiredInRuns retires some of those that exited, whoever knows of them: all else is known as if nobody were.
func TestRetiredInRuns(t *testing.T) {
	r := rand.New(rand.NewSource(174))
	gone, again := 0, 0
	for range 300 {
		l := drawn(t, r)
		m, s, x := modelOf(l), fresh(t, 256, 1<<20), &tenants{}
		x.born()
		for i, e := range l {
			got, errno := s.Note(e)
			tid := -1
			if e.Kind != api.EvCompact {
				tid = x.tids[e.G]
			}
			if errno != api.OK || !same(got, tid, x.seen(m.knows[i])) {
				t.Fatalf("%d: %v, %v, not %v by %v", i, got, errno, m.knows[i], x.tids)
			}
			if e.Kind == api.EvSpawn {
				x.born()
				if x.tids[e.Mate] < e.Mate {
					again++
				}
			}
			for _, o := range l[:i+1] {
				if o.Kind == api.EvExit && x.tids[o.G] >= 0 && r.Intn(6) == 0 {
					retire(t, s, o.G, api.OK)
					x.tids[o.G] = -1
					gone++
				}
			}
			if owes(l[:i+1]) {
				continue
			}
			var want [][]int
			for _, at := range modelOf(l[:i+1]).held() {
				want = append(want, x.seen(m.knows[at]))
			}
			if got := lists(s.Held()); !slices.EqualFunc(got, want, slices.Equal) {
				t.Fatalf("%d: %v, not %v", i, got, want)
			}
		}
	}
	if gone < 300 || again < 100 {
		t.Errorf("%d were retired, %d tids given again", gone, again)
	}
}
