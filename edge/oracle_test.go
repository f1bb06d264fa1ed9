package edge_test

import (
	"math/rand"
	"slices"
	"testing"

	"staithe/api"
	"staithe/edge"
	"staithe/gauge"
	"staithe/loom"
)

// part is a channel's send or receive, by its number.
type part struct {
	channel int
	send    bool
	number  int
}

// passed is how many sends, or receives, of a channel there were at the places ahead of one.
func passed(l []api.Event, upTo, channel int, send bool) int {
	n := 0
	for _, e := range l[:upTo] {
		serves := (e.Kind == 3 || e.Kind == 4) && e.Mate != -1
		if e.Chan == channel && (e.Kind == 3 && send || e.Kind == 4 && e.OK && !send || serves && (e.Kind == 4) == send) {
			n++
		}
	}
	return n
}

// completed is what an event completes, if it does.
func completed(l []api.Event, i int) (part, bool) {
	e := l[i]
	switch {
	case e.Kind == 3:
		return part{e.Chan, true, passed(l, i, e.Chan, true)}, true
	case e.Kind == 4 && e.OK:
		return part{e.Chan, false, passed(l, i, e.Chan, false)}, true
	case e.Kind == 7 && e.OK: // at the place of who served it
		return part{e.Chan, e.Send, passed(l, i-1, e.Chan, e.Send)}, true
	}
	return part{}, false
}

// begun is where what an event completes begins.
func begun(l []api.Event, i int) int {
	found := i
	for k, e := range l[:i] {
		if l[i].Kind == 7 && e.Kind == 6 && e.G == l[i].G {
			found = k
		}
	}
	return found
}

// oracle is what All must tell: each pair of events is asked by each rule.
type oracle struct {
	l         []api.Event
	completes []part
	has       []bool
	sizes     map[int]int
}

func oracleOf(l []api.Event) []edge.Edge {
	o := oracle{l: l, completes: make([]part, len(l)), has: make([]bool, len(l)), sizes: map[int]int{}}
	for i, e := range l {
		o.completes[i], o.has[i] = completed(l, i)
		if e.Kind == 2 {
			o.sizes[e.Chan] = e.Value
		}
	}
	var edges []edge.Edge
	for to := range l {
		for from := range to {
			for rule := 1; rule <= 6; rule++ {
				if o.holds(from, to, rule) {
					edges = append(edges, edge.Edge{From: from, To: to, Rule: rule})
				}
			}
		}
	}
	return edges
}

func (o oracle) holds(from, to, rule int) bool {
	a, b, p := o.l[from], o.l[to], o.completes[to]
	size := o.sizes[p.channel]
	if a.Kind == 13 || b.Kind == 13 {
		return false
	}
	own := func(e api.Event) bool { return e.G == b.G && e.Kind != 13 }
	switch rule {
	case 1:
		return a.G == b.G && !slices.ContainsFunc(o.l[from+1:to], own)
	case 2:
		return a.Kind == 1 && a.Mate == b.G && !slices.ContainsFunc(o.l[:to], own)
	case 3:
		return o.has[to] && !p.send && o.begins(from, part{p.channel, true, p.number})
	case 4:
		return a.Kind == 5 && (b.Kind == 4 || b.Kind == 7) && !b.OK && a.Chan == b.Chan
	case 5:
		return o.has[to] && p.send && size == 0 && o.begins(from, part{p.channel, false, p.number})
	}
	return o.has[to] && p.send && size > 0 && o.begins(from, part{p.channel, false, p.number - size})
}

// begins tells whether an event begins a send or receive that is completed somewhere.
func (o oracle) begins(from int, p part) bool {
	for i := range o.l {
		if o.has[i] && o.completes[i] == p && begun(o.l, i) == from {
			return true
		}
	}
	return false
}

// agrees holds all answers of a trace against the oracle; each edge goes forward, from an event that tells, but for those of
// rule 1 (24.2). It answers how many edges of each rule there are.
func agrees(t *testing.T, l []api.Event) [7]int {
	t.Helper()
	want := oracleOf(l)
	all, errno := edge.All(l)
	if errno != api.OK || !slices.Equal(all, want) {
		t.Fatalf("%v, %v, not %v: %v", all, errno, want, l)
	}
	var count [7]int
	for _, e := range all {
		if e.From >= e.To || e.Rule != 1 && !edge.Tells(l[e.From]) {
			t.Fatalf("%v: %v", e, l)
		}
		count[e.Rule]++
	}
	for rule := range 8 {
		some, errno := edge.Of(l, rule)
		if errno != api.OK || !slices.Equal(some, slices.DeleteFunc(slices.Clone(want), func(e edge.Edge) bool { return e.Rule != rule })) {
			t.Fatalf("rule %d: %v, %v: %v", rule, some, errno, l)
		}
	}
	for i := range l {
		if at, errno := edge.Begins(l, i); at != begun(l, i) || errno != api.OK {
			t.Fatalf("Begins(%d): %d, %v: %v", i, at, errno, l)
		}
	}
	return count
}

// alphabet are some events of two goroutines and one channel, of one value, and the spawn of a third one.
func alphabet() []api.Event {
	l := []api.Event{spawn(0, 1), spawn(1, 2), compact()}
	for g := range 2 {
		l = append(l, send(g, 0, 5, -1), recv(g, 0, 5, -1), nothing(g, 0), closes(g, 0), waits(g, 0), read(g), exit(g), panics(g))
		l = append(l, send(g, 0, 5, 1-g), recv(g, 0, 5, 1-g), got(g, 0, 5, 1-g), sent(g, 0, 5, 1-g), woken(g, 0, 1-g))
		l = append(l, send(g, 0, 5, g), recv(g, 0, 5, 2))
	}
	return l
}

// follow goes on with a trace by each event of the alphabet, so many events further.
func follow(t *testing.T, l []api.Event, further int, visit func(l []api.Event)) {
	t.Helper()
	if further == 0 {
		return
	}
	for _, e := range alphabet() {
		more := append(slices.Clone(l), e)
		rule, at := gauge.Check(more)
		if rule == 0 || rule == 4 && at == len(more) {
			visit(more)
			follow(t, more, further-1, visit)
		} else if x, errno := edge.All(more); len(x) != 0 || errno != api.ErrForm {
			t.Fatalf("%v, %v, rule %d at %d: %v", x, errno, rule, at, more)
		}
	}
}

// TestShortTraces goes, behind a goroutine that waits at an empty buffer and at a full one, through all that the rules let by
// of four events of the alphabet, whether a run has it or not.
func TestShortTraces(t *testing.T) {
	for size := range 3 {
		traces, count := 0, [7]int{}
		visit := func(l []api.Event) {
			traces++
			for rule, n := range agrees(t, l) {
				count[rule] += n
			}
		}
		start := []api.Event{makes(0, 0, size), spawn(0, 1), waits(1, 0)}
		follow(t, start, 4, visit)
		for range size {
			start = slices.Insert(start, 2, send(0, 0, 5, -1))
		}
		follow(t, start, 4, visit)
		back := map[bool]int{true: count[5], false: count[6]}
		if traces < 1000 || count[3] < 50 || count[4] < 50 || back[size == 0] < 50 || back[size > 0] != 0 {
			t.Errorf("capacity %d: %d traces, edges by rules: %v", size, traces, count)
		}
	}
}

// drawnOp is an operation; few names, so that goroutines meet.
func drawnOp(r *rand.Rand, programs int) api.Op {
	name, v := r.Intn(3), r.Intn(100)
	switch r.Intn(16) {
	case 0:
		return api.Op{Kind: api.OpSpawn, A: r.Intn(programs)}
	case 1:
		return []api.Op{{Kind: api.OpMake, A: name, B: r.Intn(5)}, {Kind: api.OpExit}, {Kind: api.OpRead, A: 3}}[r.Intn(3)]
	case 2, 3, 4:
		return api.Op{Kind: api.OpSend, A: name, B: v}
	case 5, 6, 7, 8:
		return api.Op{Kind: api.OpRecv, A: name}
	case 9:
		return []api.Op{{Kind: api.OpClose, A: name}, {Kind: api.OpRecv, A: name}}[r.Intn(2)]
	}
	o := api.Op{Kind: api.OpSelect, Default: r.Intn(6) == 0}
	for range 1 + r.Intn(4) {
		c := api.Case{Send: r.Intn(2) == 0, Chan: r.Intn(3)}
		if c.Send {
			c.Value = r.Intn(100)
		}
		o.Cases = append(o.Cases, c)
	}
	return o
}

// drawn is the trace of a drawn script, as a run has it.
func drawn(t *testing.T, r *rand.Rand) []api.Event {
	t.Helper()
	s := api.Script{T: 256, M: 1 << 20, Programs: make([][]api.Op, 2+r.Intn(5))}
	for name := range 3 {
		s.Programs[0] = append(s.Programs[0], api.Op{Kind: api.OpMake, A: name, B: []int{0, 0, 1, 2, 4}[r.Intn(5)]})
	}
	for range 1 + r.Intn(6) {
		s.Programs[0] = append(s.Programs[0], api.Op{Kind: api.OpSpawn, A: r.Intn(len(s.Programs)-1) + 1})
	}
	for i := range s.Programs {
		for range r.Intn(14) {
			s.Programs[i] = append(s.Programs[i], drawnOp(r, len(s.Programs)))
		}
	}
	for range 20 + r.Intn(60) {
		s.Plan = append(s.Plan, r.Intn(10)-r.Intn(2))
	}
	for range r.Intn(20) {
		s.Draws = append(s.Draws, r.Intn(1001))
	}
	l, v := loom.Run(s)
	if v == api.Malformed {
		t.Fatalf("a script that is not right: %v", s)
	}
	return l
}

// TestRuns: the edges of runs, and of their beginnings, some of which lack a service.
func TestRuns(t *testing.T) {
	r := rand.New(rand.NewSource(24))
	count, lacking := [7]int{}, 0
	for range 1200 {
		l := drawn(t, r)
		for rule, n := range agrees(t, l) {
			count[rule] += n
		}
		i := r.Intn(len(l))
		if (l[i].Kind == 3 || l[i].Kind == 4) && l[i].Mate != -1 {
			lacking++
		}
		agrees(t, l[:i+1])
	}
	for rule := 1; rule <= 6; rule++ {
		if count[rule] < 200 {
			t.Errorf("rule %d: %d edges", rule, count[rule])
		}
	}
	if lacking < 10 {
		t.Errorf("%d beginnings lack a service", lacking)
	}
}

// TestSpoiltRuns: a run in which something was changed is refused, but if it keeps the rules still.
func TestSpoiltRuns(t *testing.T) {
	r := rand.New(rand.NewSource(241))
	kept, broken := 0, 0
	for range 300 {
		l := drawn(t, r)
		for range 5 {
			spoilt := slices.Clone(l)
			e := &spoilt[r.Intn(len(l))]
			*[]*int{&e.Kind, &e.G, &e.Chan, &e.Value, &e.Mate, &e.Case}[r.Intn(6)] = r.Intn(8) - 2
			rule, at := gauge.Check(spoilt)
			if rule == 0 || rule == 4 && at == len(spoilt) {
				kept++
				agrees(t, spoilt)
				continue
			}
			broken++
			refused(t, "spoilt", spoilt)
		}
	}
	if kept < 50 || broken < 200 {
		t.Errorf("%d keep the rules, %d do not", kept, broken)
	}
}
