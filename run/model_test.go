package run_test

import (
	"slices"
	"testing"

	"staithe/api"
	"staithe/cell"
	"staithe/edge"
	"staithe/loom"
	"staithe/remap"
	"staithe/report"
)

// theory is what is ahead of what in a trace, by the memory model's edges and what follows from them, without clocks.
type theory struct {
	trace   []api.Event
	ahead   [][]bool // of each event, by places
	numbers []int    // of each event: one more than how many of its goroutine's ahead tell
}

func theoryOf(t *testing.T, trace []api.Event) *theory {
	t.Helper()
	x := &theory{trace: trace, ahead: make([][]bool, len(trace)), numbers: make([]int, len(trace))}
	edges, errno := edge.All(trace)
	if errno != api.OK {
		t.Fatalf("%v: %v", errno, trace)
	}
	told := map[int]int{}
	for i, e := range trace {
		x.ahead[i] = make([]bool, len(trace))
		x.numbers[i] = told[e.G] + 1
		if edge.Tells(e) {
			told[e.G]++
		}
	}
	for _, e := range edges { // by their To: what is ahead of From is whole when it is asked for
		x.ahead[e.To][e.From] = true
		for i := range e.From {
			x.ahead[e.To][i] = x.ahead[e.To][i] || x.ahead[e.From][i]
		}
	}
	return x
}

// knows is the greatest number of a goroutine's events ahead of an event; of its own goroutine its own number.
func (x *theory) knows(i, g int) int {
	if x.trace[i].G == g {
		return x.numbers[i]
	}
	most := 0
	for k, e := range x.trace[:i] {
		if e.G == g && x.ahead[i][k] {
			most = max(most, x.numbers[k])
		}
	}
	return most
}

// last is the place of the last such event of the first n ones; -1, if there is none.
func (x *theory) last(n int, such func(e api.Event) bool) int {
	for n--; n >= 0 && !such(x.trace[n]); n-- {
	}
	return n
}

// exited tells whether a goroutine did, in the first n events.
func (x *theory) exited(n, g int) bool {
	return x.last(n, func(e api.Event) bool { return e.Kind == api.EvExit && e.G == g }) >= 0
}

// latest is where what a goroutine knows behind the first n events stands: at its last event, or at its Spawn; -1 of nobody
// that did something, or was spawned.
func (x *theory) latest(n, g int) int {
	if at := x.last(n, func(e api.Event) bool { return e.G == g }); at >= 0 {
		return at
	}
	return x.last(n, func(e api.Event) bool { return e.Kind == api.EvSpawn && e.Mate == g })
}

// held are the places of events whose clocks may be fetched yet, behind the first n events.
func (x *theory) held(t *testing.T, n int) []int {
	t.Helper()
	var l []int
	type channel struct {
		size            int
		sends, receives []int // where they begin
	}
	var channels []channel
	waiting := map[int]int{}
	for i, e := range x.trace[:n] {
		begins, errno := edge.Begins(x.trace[:n], i)
		if errno != api.OK {
			t.Fatal(errno)
		}
		switch {
		case e.Kind == api.EvMake:
			channels = append(channels, channel{size: e.Value})
		case e.Kind == api.EvClose:
			l = append(l, i)
		case e.Kind == api.EvPark:
			waiting[e.G] = i
		case e.Kind == api.EvWake:
			delete(waiting, e.G)
		}
		switch {
		case e.Kind == api.EvSend, e.Kind == api.EvWake && e.OK && e.Send:
			channels[e.Chan].sends = append(channels[e.Chan].sends, begins)
		case e.Kind == api.EvRecv && e.OK, e.Kind == api.EvWake && e.OK:
			channels[e.Chan].receives = append(channels[e.Chan].receives, begins)
		}
	}
	for _, c := range channels {
		l = append(l, c.sends[min(len(c.receives), len(c.sends)):]...)
		for k, at := range c.receives {
			if c.size > 0 && k+c.size >= len(c.sends) {
				l = append(l, at)
			}
		}
	}
	for _, at := range waiting {
		l = append(l, at)
	}
	return l
}

// settled is the cut of a goroutine that exited, behind the first n events, of so many goroutines, and whether it is.
func (x *theory) settled(n, g, goroutines int, held []int) (int, bool) {
	var cuts []int
	for h := range goroutines {
		if x.exited(n, h) {
			continue
		}
		known := 0
		if at := x.latest(n, h); at >= 0 {
			known = x.knows(at, g)
		}
		cuts = append(cuts, known)
	}
	if len(cuts) == 0 || slices.Min(cuts) != slices.Max(cuts) {
		return 0, false
	}
	for _, at := range held {
		if x.knows(at, g) > cuts[0] {
			return 0, false
		}
	}
	return cuts[0], true
}

// races are the first ones of all cells, of the first n events: each pair of accesses is asked.
func (x *theory) races(n int) []report.Race {
	access := func(e api.Event) bool { return e.Kind == api.EvRead || e.Kind == api.EvWrite }
	var l []report.Race
	for i := range api.Cells {
		for b, e := range x.trace[:n] {
			race := report.Race{Cell: i, At: b, G: e.G, Write: e.Kind == api.EvWrite}
			for a, o := range x.trace[:b] {
				if !access(e) || !access(o) || e.Value != i || o.Value != i || e.G == o.G || x.ahead[b][a] {
					continue
				}
				if o.Kind == api.EvWrite {
					race.With = cell.Wrote
				} else if race.Write && race.With == cell.None {
					race.With = cell.Read
				}
			}
			if race.With != cell.None {
				l = append(l, race)
				break
			}
		}
	}
	return l
}

// model is what a run must be, from the loom's steps and the memory model alone.
type model struct {
	*theory
	verdict int
	length  int // of the trace: it is a beginning of the loom's
	records []remap.Record
	want    string // why it is saturated
}

func modelOf(t *testing.T, s api.Script) *model {
	t.Helper()
	l, errno := loom.New(s)
	if errno != api.OK {
		t.Fatalf("%v: %v", errno, s)
	}
	var steps []int // where they end
	for l.Verdict() == 0 {
		l.Step()
		steps = append(steps, len(l.Trace()))
	}
	m := &model{theory: theoryOf(t, l.Trace()), verdict: l.Verdict(), records: []remap.Record{{From: -1}}}
	for _, end := range steps {
		if m.want = m.lacks(s); m.want != "" {
			m.verdict = api.Saturated
			break
		}
		for ; m.length < end; m.length++ {
			m.note(t)
		}
	}
	return m
}

// inUse are the tids of those that are not gone.
func (m *model) inUse() []int {
	var l []int
	for _, r := range m.records {
		if !r.Gone {
			l = append(l, r.Tid)
		}
	}
	return l
}

// lacks tells what there is no room for in the step that is next.
func (m *model) lacks(s api.Script) string {
	e := m.trace[m.length]
	switch {
	case e.Kind == api.EvSpawn && len(m.inUse()) == s.T:
		return "a tid"
	case edge.Tells(e) && m.numbers[m.length] == s.M:
		return "a clock"
	}
	return ""
}

// note does in the records what the next event does.
func (m *model) note(t *testing.T) {
	t.Helper()
	e := m.trace[m.length]
	switch e.Kind {
	case api.EvSpawn:
		tid := 0
		for slices.Contains(m.inUse(), tid) {
			tid++
		}
		m.records = append(m.records, remap.Record{G: e.Mate, Tid: tid, From: m.length})
	case api.EvCompact:
		held := m.held(t, m.length)
		for i, r := range m.records {
			if r.Gone || !m.exited(m.length, r.G) {
				continue
			}
			if cut, ok := m.settled(m.length, r.G, len(m.records), held); ok {
				m.records[i].Gone, m.records[i].Till, m.records[i].Cut = true, m.length, cut
			}
		}
	}
}

// clock is an event's stamp: of each tid what the event knows of whose it is then.
func (m *model) clock(b int) []int {
	l := make([]int, api.MaxTid)
	for _, r := range m.records {
		if r.From < b && (!r.Gone || r.Till > b) {
			l[r.Tid] = m.knows(b, r.G)
		}
	}
	for len(l) > 0 && l[len(l)-1] == 0 {
		l = l[:len(l)-1]
	}
	return l
}
