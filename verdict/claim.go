package verdict

import (
	"cmp"
	"slices"

	"staithe/api"
	"staithe/axiom"
	"staithe/gauge"
	"staithe/query"
	"staithe/report"
)

const (
	longest = 1024 // events whose order is asked
	nobody  = 0    // the epoch of a Compact
)

// claim is what the instruments told of a trace. Each of its points answers whether it is so, and if not, its first place; it
// is asked only if those ahead of it are so. Behind point 1 axiom has no error to tell, behind point 2 query has none.
type claim struct {
	log   query.Log
	races []report.Race
}

// leaving is a goroutine that is retired, and its cut.
type leaving struct{ g, cut int }

func byGoroutine(a, b leaving) int {
	return cmp.Compare(a.g, b.g)
}

// trace is point 1. Only a service that is missing is told at the trace's length.
func (c claim) trace() (int, bool) {
	n := len(c.log.Events)
	if n > longest || len(c.log.Stamps) != n {
		return 0, false
	}
	rule, at := gauge.Check(c.log.Events)
	return 0, rule == 0 || at == n
}

// epochs is point 2.
func (c claim) epochs() (int, bool) {
	for i := range c.log.Events {
		if !c.hasEpoch(i) {
			return i, false
		}
	}
	return 0, true
}

func (c claim) hasEpoch(i int) bool {
	e, epoch := c.log.Events[i], c.log.Stamps[i].Epoch
	if e.Kind == api.EvCompact {
		return epoch == nobody
	}
	record, ok := query.Record(c.log, e.G)
	number, _ := axiom.Number(c.log.Events, i)
	return ok && epoch.Tid() == record.Tid && epoch.Clock() == number
}

// order is point 3.
func (c claim) order() (int, bool) {
	ahead, _ := axiom.Ahead(c.log.Events)
	for a, b := range c.pairs {
		if c.before(a, b) != ahead.Has(a, b) || c.before(b, a) != ahead.Has(b, a) {
			return b, false
		}
	}
	return 0, true
}

func (c claim) before(a, b int) bool {
	is, _ := query.Before(c.log, a, b)
	return is
}

// pairs goes through the places of each two events of which neither is a Compact: by the further one, then by the nearer one.
func (c claim) pairs(yield func(nearer, further int) bool) {
	for b, y := range c.log.Events {
		for a, x := range c.log.Events[:b] {
			if x.Kind == api.EvCompact || y.Kind == api.EvCompact {
				continue
			}
			if !yield(a, b) {
				return
			}
		}
	}
}

// firsts is point 4. If a cell has several, all of them must be at the one place.
func (c claim) firsts() (int, bool) {
	for cell := range api.Cells {
		var want []int
		if at, is, _ := axiom.First(c.log.Events, cell); is {
			want = append(want, at)
		}
		if told := slices.Compact(c.racesOf(cell)); !slices.Equal(told, want) {
			return cell, false
		}
	}
	return 0, true
}

// racesOf are the places at which a cell's first race is told to be.
func (c claim) racesOf(cell int) []int {
	var l []int
	for _, r := range c.races {
		if r.Cell == cell {
			l = append(l, r.At)
		}
	}
	return l
}

// retired is point 5. Who is gone at a place that is no Compact's was not gone ahead of a later Compact: that may be wrong then.
func (c claim) retired() (int, bool) {
	var left []int // those that exited and are not gone yet
	for at, e := range c.log.Events {
		switch e.Kind {
		case api.EvExit:
			left = append(left, e.G)
		case api.EvCompact:
			settled, rest := c.parted(at, left)
			if !slices.Equal(c.goneAt(at), settled) {
				return at, false
			}
			left = rest
		}
	}
	for _, r := range c.log.Records {
		if r.Gone && !c.isCompact(r.Till) {
			return len(c.log.Events), false
		}
	}
	return 0, true
}

// parted are, of those that exited and are not gone ahead of a Compact, those that are settled there, and all others.
func (c claim) parted(at int, left []int) ([]leaving, []int) {
	var settled []leaving
	var rest []int
	for _, g := range left {
		if cut, is, _ := axiom.Settled(c.log.Events[:at+1], g); is {
			settled = append(settled, leaving{g: g, cut: cut})
		} else {
			rest = append(rest, g)
		}
	}
	slices.SortFunc(settled, byGoroutine)
	return settled, rest
}

// goneAt are those that are gone at a place, by the records.
func (c claim) goneAt(at int) []leaving {
	var l []leaving
	for _, r := range c.log.Records {
		if r.Gone && r.Till == at {
			l = append(l, leaving{g: r.G, cut: r.Cut})
		}
	}
	slices.SortFunc(l, byGoroutine)
	return slices.Compact(l)
}

func (c claim) isCompact(at int) bool {
	return at >= 0 && at < len(c.log.Events) && c.log.Events[at].Kind == api.EvCompact
}
