package axiom_test

import (
	"math/rand"
	"slices"
	"testing"

	"staithe/api"
	"staithe/axiom"
	"staithe/edge"
	"staithe/gauge"
	"staithe/loom"
)

// oracle is a trace with its edges; what is asked of it is looked for in all events, by the chapter's words.
type oracle struct {
	l     []api.Event
	edges []edge.Edge
	ahead [][]bool // of each event, by places
}

func oracleOf(t *testing.T, l []api.Event) *oracle {
	t.Helper()
	edges, errno := edge.All(l)
	if errno != api.OK {
		t.Fatalf("%v: %v", errno, l)
	}
	o := &oracle{l: l, edges: edges, ahead: make([][]bool, len(l))}
	next := make([][]int, len(l)) // against the edges
	for _, e := range edges {
		next[e.To] = append(next[e.To], e.From)
	}
	for i := range l {
		o.ahead[i] = make([]bool, len(l))
		for work := next[i]; len(work) > 0; {
			k := work[0]
			work = work[1:]
			if !o.ahead[i][k] {
				o.ahead[i][k] = true
				work = append(slices.Clone(work), next[k]...)
			}
		}
	}
	return o
}

// number is one more than how many of its goroutine's ahead tell.
func (o *oracle) number(i int) int {
	n := 1
	for k, e := range o.l {
		if o.ahead[i][k] && e.G == o.l[i].G && edge.Tells(e) {
			n++
		}
	}
	return n
}

func (o *oracle) knows(i, g int) int {
	if o.l[i].G == g {
		return o.number(i)
	}
	most := 0
	for k, e := range o.l {
		if o.ahead[i][k] && e.G == g {
			most = max(most, o.number(k))
		}
	}
	return most
}

// first asks each pair of accesses, and keeps the least of their further places.
func (o *oracle) first(cell int) (int, bool) {
	least := len(o.l)
	for a, x := range o.l {
		for b, y := range o.l {
			accesses := (x.Kind == 9 || x.Kind == 10) && (y.Kind == 9 || y.Kind == 10) && x.Value == cell && y.Value == cell
			if accesses && x.Kind+y.Kind > 18 && x.G != y.G && !o.ahead[a][b] && !o.ahead[b][a] {
				least = min(least, max(a, b))
			}
		}
	}
	if least == len(o.l) {
		return 0, false
	}
	return least, true
}

// last is the place of the last such event; -1, if there is none.
func (o *oracle) last(such func(e api.Event) bool) int {
	for i := len(o.l) - 1; i >= 0; i-- {
		if such(o.l[i]) {
			return i
		}
	}
	return -1
}

func (o *oracle) exited(g int) bool {
	return o.last(func(e api.Event) bool { return e.Kind == 11 && e.G == g }) >= 0
}

// standing is the event by which a goroutine knows what it does.
func (o *oracle) standing(g int) int {
	if at := o.last(func(e api.Event) bool { return e.G == g && e.Kind != 13 }); at >= 0 {
		return at
	}
	return o.last(func(e api.Event) bool { return e.Kind == 1 && e.Mate == g })
}

// leads tells whether an edge of a rule comes from a place.
func (o *oracle) leads(from, rule int) bool {
	return slices.ContainsFunc(o.edges, func(e edge.Edge) bool { return e.From == from && e.Rule == rule })
}

// held are the events whose clocks are: a send of which no edge of rule 3 comes, a receive of which none of rule 6 does,
// Closes, and Parks behind which their goroutine has nothing.
func (o *oracle) held(t *testing.T) []int {
	t.Helper()
	sizes := map[int]int{}
	var l []int
	for i, e := range o.l {
		begins, errno := edge.Begins(o.l, i)
		if errno != api.OK {
			t.Fatal(errno)
		}
		sends := e.Kind == 3 || e.Kind == 7 && e.Send
		receives := (e.Kind == 4 || e.Kind == 7) && e.OK && !e.Send
		switch {
		case e.Kind == 2:
			sizes[e.Chan] = e.Value
		case e.Kind == 5, e.Kind == 6 && !slices.ContainsFunc(o.l[i+1:], func(x api.Event) bool { return x.G == e.G }):
			l = append(l, i)
		case sends && !o.leads(begins, 3), receives && sizes[e.Chan] > 0 && !o.leads(begins, 6):
			l = append(l, begins)
		}
	}
	return l
}

// settled is a goroutine's cut, and why it is not settled.
func (o *oracle) settled(t *testing.T, g int) (int, string) {
	t.Helper()
	if !o.exited(g) {
		return 0, "lives"
	}
	cut := -1
	for h := range gauge.Goroutines(o.l) {
		if o.exited(h) {
			continue
		}
		n := o.knows(o.standing(h), g)
		if cut >= 0 && n != cut {
			return 0, "known unlike"
		}
		cut = n
	}
	if cut < 0 {
		return 0, "nobody lives"
	}
	for _, at := range o.held(t) {
		if o.knows(at, g) > cut {
			return 0, "held"
		}
	}
	return cut, ""
}

// tally is how often something was so.
type tally map[string]int

// agrees holds all answers of a trace against the oracle.
func agrees(t *testing.T, l []api.Event, seen tally) {
	t.Helper()
	o := oracleOf(t, l)
	m, errno := axiom.Ahead(l)
	if errno != api.OK || m.Size() != len(l) || len(m.Loops()) != 0 {
		t.Fatalf("%v, size %d, loops %v: %v", errno, m.Size(), m.Loops(), l)
	}
	for b, e := range l {
		for a, x := range l {
			if m.Has(a, b) != o.ahead[b][a] {
				t.Fatalf("%d ahead of %d: %t: %v", a, b, m.Has(a, b), l)
			}
			// 26.3
			if m.Has(a, b) && a >= b || x.G == e.G && e.G >= 0 && m.Has(a, b) != (a < b) || e.G < 0 && m.Has(a, b) {
				t.Fatalf("%d ahead of %d: %v", a, b, l)
			}
		}
	}
	for cell := range api.Cells {
		at, is := o.first(cell)
		if x, ok, errno := axiom.First(l, cell); x != at || ok != is || errno != api.OK {
			t.Fatalf("First(%d): %d, %t, %v, not %d, %t: %v", cell, x, ok, errno, at, is, l)
		}
		if is {
			seen["race"]++
		}
	}
	for g := range gauge.Goroutines(l) {
		cut, why := o.settled(t, g)
		if x, ok, errno := axiom.Settled(l, g); x != cut || ok != (why == "") || errno != api.OK {
			t.Fatalf("Settled(%d): %d, %t, %v, not %d, %q: %v", g, x, ok, errno, cut, why, l)
		}
		seen[why]++
		if cut > 0 {
			seen["cut"]++
		}
	}
	seen["trace"]++
}

// counts holds numbers and what is known against the oracle, of each event and goroutine.
func counts(t *testing.T, l []api.Event) {
	t.Helper()
	o := oracleOf(t, l)
	for i, e := range l {
		if e.Kind == api.EvCompact {
			if n, errno := axiom.Number(l, i); n != 0 || errno != api.ErrArg {
				t.Fatalf("Number(%d): %d, %v: %v", i, n, errno, l)
			}
			if n, errno := axiom.Knows(l, i, 0); n != 0 || errno != api.ErrArg {
				t.Fatalf("Knows(%d, 0): %d, %v: %v", i, n, errno, l)
			}
			continue
		}
		if n, errno := axiom.Number(l, i); n != o.number(i) || errno != api.OK {
			t.Fatalf("Number(%d): %d, %v, not %d: %v", i, n, errno, o.number(i), l)
		}
		for g := -1; g <= gauge.Goroutines(l); g++ {
			if n, errno := axiom.Knows(l, i, g); n != o.knows(i, g) || errno != api.OK {
				t.Fatalf("Knows(%d, %d): %d, %v, not %d: %v", i, g, n, errno, o.knows(i, g), l)
			}
		}
	}
}

// alphabet are some events of three goroutines and one channel, of one value and one cell.
func alphabet() []api.Event {
	l := []api.Event{spawn(0, 3), compact()}
	for g := range 3 {
		l = append(l, send(g, 0, 5, -1), recv(g, 0, 5, -1), nothing(g, 0), closes(g, 0), waits(g, 0), write(g, 0), exit(g), panics(g))
		for mate := range 3 {
			l = append(l, send(g, 0, 5, mate), recv(g, 0, 5, mate), got(g, 0, 5, mate), sent(g, 0, 5, mate), woken(g, 0, mate))
		}
	}
	return l
}

// follow goes on with a trace by each event of the alphabet that the rules let by, so many events further.
func follow(l []api.Event, further int, visit func(l []api.Event)) {
	if further == 0 {
		return
	}
	for _, e := range alphabet() {
		more := append(slices.Clone(l), e)
		if rule, at := gauge.Check(more); rule == 0 || rule == 4 && at == len(more) {
			visit(more)
			follow(more, further-1, visit)
		}
	}
}

// TestShortTraces goes, of three goroutines and a channel, first with an empty buffer, then with a full one and one that waits
// to receive, through all that the rules let by of three events of the alphabet, whether a run has it or not; behind each it
// has goroutines 1, 2 and 0 exit, as far as they may.
func TestShortTraces(t *testing.T) {
	for size := range 3 {
		seen := tally{}
		visit := func(l []api.Event) {
			agrees(t, l, seen)
			for _, e := range []api.Event{exit(1), exit(2), exit(0)} {
				l = append(slices.Clone(l), e)
				if rule, _ := gauge.Check(l); rule != 0 {
					break
				}
				agrees(t, l, seen)
			}
		}
		start := trace(makes(0, 0, size), spawn(0, 1), spawn(0, 2))
		follow(start, 3, visit)
		for range size {
			start = append(start, send(2, 0, 5, -1))
		}
		follow(append(start, waits(1, 0)), 3, visit)
		for _, what := range []string{"", "race", "cut", "known unlike", "nobody lives", "held"} {
			if seen[what] < 20 {
				t.Errorf("capacity %d: %v", size, seen)
			}
		}
	}
}

// drawnOp is an operation; few names, so that goroutines meet, and many exits.
func drawnOp(r *rand.Rand, programs int) api.Op {
	name, v := r.Intn(3), r.Intn(100)
	switch n := r.Intn(24); {
	case n < 3:
		return api.Op{Kind: api.OpSpawn, A: 1 + r.Intn(programs-1)}
	case n < 9:
		return api.Op{Kind: []int{api.OpRead, api.OpRead, api.OpWrite}[r.Intn(3)], A: []int{0, 1, 6, 7}[r.Intn(4)]}
	case n < 13:
		return api.Op{Kind: api.OpSend, A: name, B: v}
	case n < 18:
		return api.Op{Kind: api.OpRecv, A: name}
	case n < 19:
		return api.Op{Kind: api.OpMake, A: name, B: r.Intn(5)}
	case n < 20:
		return []api.Op{{Kind: api.OpClose, A: name}, {Kind: api.OpExit}, {Kind: api.OpExit}}[r.Intn(3)]
	}
	o := api.Op{Kind: api.OpSelect, Default: r.Intn(3) > 0}
	for range 1 + r.Intn(4) {
		c := api.Case{Send: r.Intn(2) == 0, Chan: r.Intn(3)}
		if c.Send {
			c.Value = r.Intn(100)
		}
		o.Cases = append(o.Cases, c)
	}
	return o
}

// drawn is a script whose goroutines are short, with much room.
func drawn(r *rand.Rand, steps int) api.Script {
	s := api.Script{T: 256, M: 1 << 20, Programs: make([][]api.Op, 2+r.Intn(5))}
	for name := range 3 {
		s.Programs[0] = append(s.Programs[0], api.Op{Kind: api.OpMake, A: name, B: []int{0, 0, 1, 2, 4}[r.Intn(5)]})
	}
	for range 2 + r.Intn(8) {
		s.Programs[0] = append(s.Programs[0], api.Op{Kind: api.OpSpawn, A: 1 + r.Intn(len(s.Programs)-1)})
		if r.Intn(2) == 0 {
			s.Programs[0] = append(s.Programs[0], drawnOp(r, len(s.Programs)))
		}
	}
	for i := 1; i < len(s.Programs); i++ {
		for range r.Intn(6) {
			s.Programs[i] = append(s.Programs[i], drawnOp(r, len(s.Programs)))
		}
	}
	for range 10 + r.Intn(steps) {
		s.Plan = append(s.Plan, max(api.Compact, r.Intn(10)-2))
	}
	for range r.Intn(20) {
		s.Draws = append(s.Draws, r.Intn(1001))
	}
	return s
}

// TestRuns: traces of runs, and some of their beginnings, all those that lack a service among them.
func TestRuns(t *testing.T) {
	r := rand.New(rand.NewSource(26))
	seen, lacking := tally{}, 0
	for range 400 {
		l, v := loom.Run(drawn(r, 90))
		if v == api.Malformed {
			t.Fatal("a script that is not right")
		}
		agrees(t, l, seen)
		part := l[:r.Intn(len(l))+1]
		agrees(t, part, seen)
		if len(part) < 60 {
			counts(t, part)
		}
		for i, e := range l {
			if (e.Kind == api.EvSend || e.Kind == api.EvRecv) && e.Mate != -1 {
				lacking++
				agrees(t, l[:i+1], seen)
				counts(t, l[:i+1])
			}
		}
	}
	for _, what := range []string{"", "race", "cut", "known unlike", "nobody lives", "held"} {
		if seen[what] < 50 {
			t.Errorf("%v", seen)
		}
	}
	if lacking < 100 {
		t.Errorf("%d beginnings lack a service", lacking)
	}
}

// TestSpoiltRuns: a run in which something was changed is refused, but if it keeps the rules still.
func TestSpoiltRuns(t *testing.T) {
	r := rand.New(rand.NewSource(261))
	kept, broken := 0, 0
	for range 150 {
		l, _ := loom.Run(drawn(r, 40))
		for range 4 {
			spoilt := slices.Clone(l)
			e := &spoilt[r.Intn(len(l))]
			*[]*int{&e.Kind, &e.G, &e.Chan, &e.Value, &e.Mate, &e.Case}[r.Intn(6)] = r.Intn(8) - 2
			if rule, at := gauge.Check(spoilt); rule == 0 || rule == 4 && at == len(spoilt) {
				kept++
				agrees(t, spoilt, tally{})
				continue
			}
			broken++
			refused(t, "spoilt", spoilt, api.ErrForm)
		}
	}
	if kept < 50 || broken < 100 {
		t.Errorf("%d keep the rules, %d do not", kept, broken)
	}
}
