package query_test

import (
	"math/rand"
	"testing"

	"staithe/api"
	"staithe/clock"
	"staithe/crew"
	"staithe/loom"
	"staithe/query"
	"staithe/remap"
	"staithe/retire"
	"staithe/sheet"
	"staithe/stamp"
)

// drawnOp is an operation; few names, so that goroutines meet, and many exits, so that some are forgotten.
func drawnOp(r *rand.Rand, programs int) api.Op {
	name, v := r.Intn(3), r.Intn(100)
	switch n := r.Intn(20); {
	case n < 3:
		return api.Op{Kind: api.OpSpawn, A: 1 + r.Intn(programs-1)}
	case n < 6:
		return api.Op{Kind: api.OpRead + r.Intn(2), A: r.Intn(8)}
	case n < 10:
		return api.Op{Kind: api.OpSend, A: name, B: v}
	case n < 14:
		return api.Op{Kind: api.OpRecv, A: name}
	case n < 15:
		return api.Op{Kind: api.OpMake, A: name, B: r.Intn(5)}
	case n < 16:
		return []api.Op{{Kind: api.OpClose, A: name}, {Kind: api.OpExit}, {Kind: api.OpExit}}[r.Intn(3)]
	}
	o := api.Op{Kind: api.OpSelect, Default: r.Intn(3) > 0}
	for range 1 + r.Intn(4) {
		c := api.Case{Send: r.Intn(2) == 0, Chan: r.Intn(3)}
		if c.Send {
			c.Value = r.Intn(100)
		}
		o.Cases = append(o.Cases, c)
	}
	return o
}

// drawn is a script whose goroutines are short, with many Compact entries.
func drawn(r *rand.Rand) api.Script {
	s := api.Script{T: 256, M: 1 << 20, Programs: make([][]api.Op, 2+r.Intn(5))}
	for name := range 3 {
		s.Programs[0] = append(s.Programs[0], api.Op{Kind: api.OpMake, A: name, B: []int{0, 0, 1, 2, 4}[r.Intn(5)]})
	}
	for range 2 + r.Intn(8) {
		s.Programs[0] = append(s.Programs[0], api.Op{Kind: api.OpSpawn, A: 1 + r.Intn(len(s.Programs)-1)})
		if r.Intn(2) == 0 {
			s.Programs[0] = append(s.Programs[0], drawnOp(r, len(s.Programs)))
		}
	}
	for i := 1; i < len(s.Programs); i++ {
		for range r.Intn(5) {
			s.Programs[i] = append(s.Programs[i], drawnOp(r, len(s.Programs)))
		}
	}
	for range 20 + r.Intn(180) {
		s.Plan = append(s.Plan, max(api.Compact, r.Intn(10)-2))
	}
	for range r.Intn(20) {
		s.Draws = append(s.Draws, r.Intn(1001))
	}
	return s
}

// journal notes a script's run: its log, and who was retired.
type journal struct {
	loom    *loom.Loom
	stamper *stamp.Stamper
	table   *remap.Table
	log     query.Log
	retired int
}

// journalOf runs a script up to its end, or up to a step that there is no room for.
func journalOf(t *testing.T, s api.Script) *journal {
	t.Helper()
	weaver, errno := loom.New(s)
	if errno != api.OK {
		t.Fatalf("%v: %v", errno, s)
	}
	stamper, errno := stamp.New(s.T, s.M)
	if errno != api.OK {
		t.Fatal(errno)
	}
	j := &journal{loom: weaver, stamper: stamper, table: remap.New()}
	for j.loom.Verdict() == 0 {
		events := j.loom.Step()
		if e := events[0]; e.Kind != api.EvCompact && !j.stamper.Can(e.G, e.Kind == api.EvSpawn, tells(e)) {
			break
		}
		for _, e := range events {
			j.note(t, e)
		}
	}
	j.log.Records = j.table.All()
	return j
}

func (j *journal) note(t *testing.T, e api.Event) {
	t.Helper()
	s, errno := j.stamper.Note(e)
	if errno != api.OK {
		t.Fatalf("%v: %v behind %v", errno, e, j.log.Events)
	}
	place := len(j.log.Events)
	j.log.Events, j.log.Stamps = append(j.log.Events, e), append(j.log.Stamps, s)
	switch e.Kind {
	case api.EvSpawn:
		tid, _ := j.stamper.Watch().Tid(e.Mate)
		if errno := j.table.Born(e.Mate, tid, place); errno != api.OK {
			t.Fatalf("Born(%d, %d, %d): %v", e.Mate, tid, place, errno)
		}
	case api.EvCompact:
		j.compact(t, place)
	}
}

// compact retires whoever exited and is settled.
func (j *journal) compact(t *testing.T, place int) {
	t.Helper()
	var exited []int
	var living []*clock.Clock
	watch, held := j.stamper.Watch(), j.stamper.Held()
	for _, g := range watch.All() {
		if state, _ := j.loom.State(g); state == crew.Exited {
			exited = append(exited, g)
		} else {
			c, _ := watch.Clock(g)
			living = append(living, c)
		}
	}
	for _, g := range exited {
		tid, _ := watch.Tid(g)
		cut, ok := retire.Of(tid, living, held)
		if !ok {
			continue
		}
		j.stamper.Retire(g)
		if errno := j.table.Gone(g, place, cut); errno != api.OK {
			t.Fatalf("Gone(%d, %d, %d): %v", g, place, cut, errno)
		}
		j.retired++
	}
}

// owned holds each event's tid against the table: it is its goroutine's behind the event.
func (j *journal) owned(t *testing.T) {
	t.Helper()
	for i, e := range j.log.Events {
		if e.Kind == api.EvCompact {
			continue
		}
		tid := j.log.Stamps[i].Epoch.Tid()
		if g, ok := j.table.Owner(tid, i); g != e.G || !ok {
			t.Fatalf("Owner(%d, %d): %d, %t, not %d: %v", tid, i, g, ok, e.G, j.log.Records)
		}
	}
}

// ordered holds Before of all pairs against the memory model; and of one goroutine the earlier events are known, if the later
// are (22.3). It answers how many pairs of unlike goroutines are in order, and how many such are told by a cut.
func (j *journal) ordered(t *testing.T, x *theory) (int, int) {
	t.Helper()
	pairs, cuts := 0, 0
	for b, e := range j.log.Events {
		later := map[int]bool{} // of each goroutine whether an event further on is known
		for a := len(j.log.Events) - 1; a >= 0; a-- {
			o := j.log.Events[a]
			is, errno := query.Before(j.log, a, b)
			if o.Kind == api.EvCompact || e.Kind == api.EvCompact {
				if is || errno != api.ErrNone {
					t.Fatalf("Before(%d, %d): %t, %v", a, b, is, errno)
				}
				continue
			}
			if want := a < b && x.ahead[b][a]; is != want || errno != api.OK {
				t.Fatalf("Before(%d, %d): %t, %v, not %t: %v, by %v", a, b, is, errno, want, j.log.Events, j.log.Records)
			}
			if later[o.G] && !is {
				t.Fatalf("%d is not before %d, but one further on is", a, b)
			}
			later[o.G] = is
			if is && o.G != e.G {
				pairs++
				if r, _ := query.Record(j.log, o.G); r.Gone && r.Till < b {
					cuts++
				}
			}
		}
	}
	return pairs, cuts
}

// TestOrderOfRuns: with few tids, which are given again, the order is that of the memory model.
func TestOrderOfRuns(t *testing.T) {
	r := rand.New(rand.NewSource(22))
	pairs, cuts, retired, again := 0, 0, 0, 0
	for range 3000 {
		s := drawn(r)
		s.T = 2 + r.Intn(10)
		if r.Intn(10) == 0 {
			s.M = 1 + r.Intn(9)
		}
		j := journalOf(t, s)
		j.owned(t)
		n, c := j.ordered(t, theoryOf(j.log.Events))
		pairs, cuts, retired = pairs+n, cuts+c, retired+j.retired
		if len(j.log.Records) > s.T {
			again++
		}
	}
	if pairs < 100000 || cuts < 1000 || retired < 1000 || again < 100 {
		t.Errorf("pairs: %d, told by cuts: %d, retired: %d, runs with tids given again: %d", pairs, cuts, retired, again)
	}
}

// TestKnownInRuns: without Compact entries what is known is the greatest number of events ahead.
func TestKnownInRuns(t *testing.T) {
	r := rand.New(rand.NewSource(221))
	for range 150 {
		j := journalOf(t, sheet.Bare(drawn(r)))
		x := theoryOf(j.log.Events)
		j.ordered(t, x)
		for b := range j.log.Events {
			for _, record := range j.log.Records {
				known(t, j.log, b, record.G, x.knows(b, record.G))
			}
		}
		if t.Failed() {
			t.Fatalf("%v", j.log.Events)
		}
	}
}

// TestCompactingTellsTheSame: the order of the bare script's events is that of the same ones among Compact entries.
func TestCompactingTellsTheSame(t *testing.T) {
	r := rand.New(rand.NewSource(222))
	retired := 0
	for range 200 {
		s := drawn(r)
		with, without := journalOf(t, s), journalOf(t, sheet.Bare(s))
		retired += with.retired
		var places []int
		for i, e := range with.log.Events {
			if e.Kind != api.EvCompact {
				places = append(places, i)
			}
		}
		if len(places) != len(without.log.Events) {
			t.Fatalf("%d events, not %d", len(places), len(without.log.Events))
		}
		for a, i := range places {
			for b, k := range places {
				one, errno := query.Before(with.log, i, k)
				other, bare := query.Before(without.log, a, b)
				if one != other || errno != api.OK || bare != api.OK {
					t.Fatalf("Before(%d, %d): %t, %v, not %t, %v", i, k, one, errno, other, bare)
				}
			}
		}
	}
	if retired < 100 {
		t.Errorf("retired: %d", retired)
	}
}
