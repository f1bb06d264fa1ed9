package axiom

import (
	"staithe/api"
	"staithe/edge"
	"staithe/gauge"
	"staithe/matrix"
)

// theory is a trace's. What is ahead of what is a part of it, and that part's questions are asked of the theory itself: Has(a,
// b) is whether the event at a is ahead of that at b.
type theory struct {
	*matrix.Matrix
	events  []api.Event
	numbers []int // of each event; a Compact has none
}

func theoryOf(l []api.Event) (theory, api.Errno) {
	edges, errno := edgesOf(l)
	if errno != api.OK {
		return theory{}, errno
	}
	m, errno := matrix.New(len(l))
	if errno != api.OK {
		return theory{}, errno
	}
	for _, e := range edges {
		m.Set(e.From, e.To)
	}
	m.Close()
	return theory{Matrix: m, events: l, numbers: numbers(l)}, api.OK
}

// edgesOf are the edges of a trace that is not too long for a matrix.
func edgesOf(l []api.Event) ([]edge.Edge, api.Errno) {
	edges, errno := edge.All(l)
	if errno != api.OK {
		return nil, errno
	}
	if len(l) > matrix.Most {
		return nil, api.ErrLong
	}
	return edges, api.OK
}

// numbers are those of all events: what stands ahead of an event and is its goroutine's is ahead of it.
func numbers(l []api.Event) []int {
	told := make([]int, gauge.Goroutines(l))
	n := make([]int, len(l))
	for i, e := range l {
		if e.Kind == api.EvCompact {
			continue
		}
		n[i] = told[e.G] + 1
		if edge.Tells(e) {
			told[e.G]++
		}
	}
	return n
}

// knows is up to which number the event at i knows goroutine g.
func (t theory) knows(i, g int) int {
	if t.events[i].G == g {
		return t.numbers[i]
	}
	most := 0
	for _, k := range t.Column(i) {
		if t.events[k].G == g {
			most = max(most, t.numbers[k])
		}
	}
	return most
}

// firstRace is the least place of an access that races with one that stands ahead of it.
func (t theory) firstRace(cell int) (int, bool) {
	var earlier []int // accesses of the cell
	for i, e := range t.events {
		if !isAccess(e) || e.Value != cell {
			continue
		}
		for _, k := range earlier {
			if t.race(k, i) {
				return i, true
			}
		}
		earlier = append(earlier, i)
	}
	return 0, false
}

// race tells whether two accesses of one cell do.
func (t theory) race(a, b int) bool {
	x, y := t.events[a], t.events[b]
	writes := x.Kind == api.EvWrite || y.Kind == api.EvWrite
	return writes && x.G != y.G && !t.Has(a, b) && !t.Has(b, a)
}

func isAccess(e api.Event) bool {
	return e.Kind == api.EvRead || e.Kind == api.EvWrite
}
