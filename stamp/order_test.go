package stamp_test

import (
	"fmt"
	"math/rand"
	"slices"
	"testing"

	"staithe/api"
	"staithe/gauge"
	"staithe/loom"
	"staithe/stamp"
)

// drawnOp is an operation; few names, so that goroutines meet.
func drawnOp(r *rand.Rand, programs int) api.Op {
	name, v := r.Intn(3), r.Intn(100)
	switch r.Intn(16) {
	case 0:
		return api.Op{Kind: api.OpSpawn, A: r.Intn(programs)}
	case 1:
		return []api.Op{{Kind: api.OpMake, A: name, B: r.Intn(5)}, {Kind: api.OpExit}, {Kind: api.OpExit}}[r.Intn(3)]
	case 2:
		return api.Op{Kind: api.OpRead + r.Intn(2), A: r.Intn(8)}
	case 3, 4, 5:
		return api.Op{Kind: api.OpSend, A: name, B: v}
	case 6, 7, 8:
		return api.Op{Kind: api.OpRecv, A: name}
	case 9:
		return []api.Op{{Kind: api.OpClose, A: name}, {Kind: api.OpRecv, A: name}, {Kind: api.OpRecv, A: name}}[r.Intn(3)]
	}
	o := api.Op{Kind: api.OpSelect, Default: r.Intn(6) == 0}
	for range 1 + r.Intn(4) {
		o.Cases = append(o.Cases, api.Case{Send: r.Intn(2) == 0, Chan: r.Intn(3), Value: r.Intn(100)})
	}
	for i, c := range o.Cases {
		if !c.Send {
			o.Cases[i].Value = 0
		}
	}
	return o
}

// drawn is the trace of a drawn script, as a run has it.
func drawn(t *testing.T, r *rand.Rand) []api.Event {
	t.Helper()
	s := api.Script{T: 256, M: 1 << 20, Programs: make([][]api.Op, 2+r.Intn(5))}
	for i := range s.Programs {
		if i == 0 {
			for name := range 3 {
				s.Programs[0] = append(s.Programs[0], api.Op{Kind: api.OpMake, A: name, B: []int{0, 0, 1, 2, 4}[r.Intn(5)]})
			}
			for range 1 + r.Intn(6) {
				s.Programs[0] = append(s.Programs[0], api.Op{Kind: api.OpSpawn, A: r.Intn(len(s.Programs)-1) + 1})
			}
		}
		for range r.Intn(14) {
			s.Programs[i] = append(s.Programs[i], drawnOp(r, len(s.Programs)))
		}
	}
	for range 20 + r.Intn(100) {
		s.Plan = append(s.Plan, r.Intn(10)-r.Intn(2))
	}
	for range r.Intn(20) {
		s.Draws = append(s.Draws, r.Intn(1001))
	}
	l, v := loom.Run(s)
	if v == api.Malformed {
		t.Fatalf("a script that is not right: %v", s)
	}
	return l
}

// agrees holds all stamps of a trace against the memory model: its goroutines' tids are their ids.
func agrees(t *testing.T, l []api.Event) *model {
	t.Helper()
	stamps, errno := stamp.All(l, 256, 1<<20)
	if errno != api.OK || len(stamps) != len(l) {
		t.Fatalf("%v, %d stamps: %v", errno, len(stamps), l)
	}
	m := modelOf(l)
	for i, e := range l {
		if !same(stamps[i], e.G, trimmed(m.knows[i])) {
			t.Fatalf("%d: %v at %d, not %v: %v", i, stamps[i].Clock, stamps[i].Epoch.Clock(), m.knows[i], l)
		}
	}
	return m
}

// grow tells what 17.3 says: of each goroutine the stamps grow; an event's own epoch is in its stamp, and in none of another
// goroutine's ahead of it. (One goroutine's events have one epoch up to that which tells.)
func grow(t *testing.T, l []api.Event, stamps []stamp.Stamp) {
	t.Helper()
	at := func(x stamp.Stamp, tid int) int {
		if tid >= len(x.Clock) {
			return 0
		}
		return x.Clock[tid]
	}
	for i, e := range l {
		own := stamps[i].Epoch
		if e.Kind == api.EvCompact {
			continue
		}
		if own.Tid() != e.G || at(stamps[i], e.G) != own.Clock() {
			t.Fatalf("%d: the own epoch, tid %d at %d, is not in %v", i, own.Tid(), own.Clock(), stamps[i].Clock)
		}
		for j, o := range l[:i] {
			switch {
			case o.Kind == api.EvCompact:
			case o.G != e.G && at(stamps[j], e.G) >= own.Clock():
				t.Fatalf("%d: the epoch %d of tid %d is known at %d: %v", i, own.Clock(), e.G, j, l)
			case o.G == e.G:
				for tid, n := range stamps[j].Clock {
					if n > at(stamps[i], tid) {
						t.Fatalf("%d knows less than %d: %v, %v", i, j, stamps[i].Clock, stamps[j].Clock)
					}
				}
				if tells(o) && own.Clock() <= at(stamps[j], e.G) {
					t.Fatalf("%d told, and %d is at the same clock", j, i)
				}
			}
		}
	}
}

func TestStampsAreTheOrderOfRuns(t *testing.T) {
	r := rand.New(rand.NewSource(17))
	seen := map[string]int{}
	for range 2000 {
		l := drawn(t, r)
		m := agrees(t, l)
		stamps, _ := stamp.All(l, 256, 1<<20)
		grow(t, l, stamps)
		for i, e := range l {
			size := m.size[e.Chan]
			seen[fmt.Sprintf("event %d, served %t, ok %t, buffered %t", e.Kind, e.Mate >= 0, e.OK, e.Chan >= 0 && size > 0)]++
			for h, n := range m.knows[i] {
				if h != e.G && n > 3 {
					seen["much is known"]++
				}
			}
		}
	}
	for _, what := range []string{
		"event 3, served false, ok false, buffered true", "event 3, served true, ok false, buffered false", "event 3, served true, ok false, buffered true",
		"event 4, served false, ok true, buffered true", "event 4, served true, ok true, buffered false", "event 4, served true, ok true, buffered true",
		"event 4, served false, ok false, buffered true", "event 7, served true, ok false, buffered false", "event 7, served true, ok false, buffered true",
		"event 1, served true, ok false, buffered false", "event 13, served false, ok false, buffered false", "much is known",
	} {
		if seen[what] < 50 {
			t.Errorf("%s: %d times", what, seen[what])
		}
	}
}

// TestHeldInRuns: a clock is kept of just those events that the order says, with what they knew.
func TestHeldInRuns(t *testing.T) {
	r := rand.New(rand.NewSource(171))
	most := 0
	for range 150 {
		l := drawn(t, r)
		whole := modelOf(l)
		s := fresh(t, 256, 1<<20)
		for i, e := range l {
			if _, errno := s.Note(e); errno != api.OK {
				t.Fatalf("%d: %v: %v", i, errno, l)
			}
			if owes(l[:i+1]) {
				continue
			}
			var want [][]int
			for _, at := range modelOf(l[:i+1]).held() {
				want = append(want, trimmed(whole.knows[at]))
			}
			if got := lists(s.Held()); !slices.EqualFunc(got, want, slices.Equal) {
				t.Fatalf("%d: %v, not %v: %v", i, got, want, l[:i+1])
			}
			most = max(most, len(want))
		}
	}
	if most < 8 {
		t.Errorf("never more than %d clocks are held", most)
	}
}

// alphabet are some events of two goroutines and one channel, of one value, and the spawn of a third one.
func alphabet() []api.Event {
	l := []api.Event{spawn(0, 1), spawn(1, 2), compact()}
	for g := range 2 {
		l = append(l, send(g, 0, 5, -1), recv(g, 0, 5, -1), nothing(g, 0), closes(g, 0), waits(g, 0), read(g), exit(g), panics(g))
		l = append(l, send(g, 0, 5, 1-g), recv(g, 0, 5, 1-g), got(g, 0, 5, 1-g), sent(g, 0, 5, 1-g), woken(g, 0, 1-g))
		l = append(l, send(g, 0, 5, g), recv(g, 0, 5, 2))
	}
	return l
}

// follow goes on with a trace by each event of the alphabet, so many events further.
func follow(t *testing.T, l []api.Event, further int, visit func(l []api.Event)) {
	t.Helper()
	if further == 0 {
		return
	}
	for _, e := range alphabet() {
		more := append(slices.Clone(l), e)
		rule, at := gauge.Check(more)
		_, errno := stamp.All(more, 256, 1<<20)
		if kept := rule == 0 || rule == 4 && at == len(more); kept != (errno == api.OK) || !kept && errno != api.ErrForm {
			t.Fatalf("%v, rule %d at %d: %v", errno, rule, at, more)
		}
		if errno == api.OK {
			visit(more)
			follow(t, more, further-1, visit)
		}
	}
}

// TestShortTraces goes, behind a goroutine that waits at an empty buffer and at a full one, through all that the rules let by
// of four events of the alphabet, whether a run has it or not. Strange ones are asked only whether their stamps grow.
func TestShortTraces(t *testing.T) {
	for size := range 3 {
		traces, strange := 0, 0
		visit := func(l []api.Event) {
			traces++
			if stamps, errno := stamp.All(l, 256, 1<<20); errno == api.OK {
				grow(t, l, stamps)
			}
			switch {
			case owes(l):
			case modelOf(l).strange():
				strange++
			default:
				agrees(t, l)
			}
		}
		start := []api.Event{makes(0, 0, size), spawn(0, 1), waits(1, 0)}
		follow(t, start, 4, visit)
		for range size {
			start = slices.Insert(start, 2, send(0, 0, 5, -1))
		}
		follow(t, start, 4, visit)
		if traces < 1000 || size > 0 && strange < 10 {
			t.Errorf("capacity %d: %d traces, %d of them strange", size, traces, strange)
		}
	}
}

// TestServicesThatNoRunHas: what slots refuse is neither fetched nor kept, and the rest is done as told.
func TestServicesThatNoRunHas(t *testing.T) {
	s := fresh(t, 9, 99)
	note(t, s, makes(0, 0, 1), 0, 1)
	note(t, s, spawn(0, 1), 0, 1)
	note(t, s, send(0, 0, 5, -1), 0, 2)
	note(t, s, waits(1, 0), 1, 1, 1)
	note(t, s, send(0, 0, 5, 1), 0, 3) // the buffer is full
	holds(t, s, []int{1, 1}, []int{1, 1})
	note(t, s, got(1, 0, 5, 0), 1, 2, 2)
	holds(t, s, []int{1, 1})
	note(t, s, recv(1, 0, 5, -1), 1, 2, 2)
	holds(t, s, []int{1, 1})
	note(t, s, send(0, 0, 6, -1), 0, 4, 1)

	s = fresh(t, 9, 99)
	note(t, s, makes(0, 0, 1), 0, 1)
	note(t, s, spawn(0, 1), 0, 1)
	note(t, s, offers(1, 0, 5), 1, 1, 1)
	note(t, s, recv(0, 0, 5, 1), 0, 2) // the buffer is empty
	holds(t, s, []int{1, 1}, []int{1, 1})
	note(t, s, sent(1, 0, 5, 0), 1, 1, 2)
	holds(t, s, []int{1, 1})
	note(t, s, send(0, 0, 6, -1), 0, 3)
	note(t, s, recv(0, 0, 6, -1), 0, 4, 1)
}

// TestServicesOfWhoDoesNotWait: the rules let the server by, which fetches nothing of who is not there; no event may follow.
func TestServicesOfWhoDoesNotWait(t *testing.T) {
	for size := range 2 {
		for _, mate := range []int{0, 1, 2, 511} {
			for _, server := range []api.Event{send(0, 0, 5, mate), recv(0, 0, 5, mate)} {
				s := fresh(t, 9, 99)
				note(t, s, makes(0, 0, size), 0, 1)
				note(t, s, spawn(0, 1), 0, 1)
				note(t, s, server, 0, 2)
				for _, e := range append(alphabet(), got(2, 0, 5, 0), sent(2, 0, 5, 0), got(511, 0, 5, 0), sent(511, 0, 5, 0)) {
					refuse(t, s, e, api.ErrForm)
				}
			}
		}
	}
}
