package report_test

import (
	"math/rand"
	"slices"
	"testing"

	"staithe/api"
	"staithe/cell"
	"staithe/clock"
	"staithe/report"
	"staithe/retire"
	"staithe/watch"
)

// past is an access that was: whose, and at which of its numbers.
type past struct {
	g, number int
	write     bool
}

// letter is what somebody told and somebody may fetch yet: with tids that are given again, and with tids for ever.
type letter struct{ few, all *clock.Clock }

// memory is a report beside all accesses that were. Its goroutines have tids that are given again, and beside them tids of
// their own for ever.
type memory struct {
	few, all       *watch.Watch
	living, exited []int
	letters        []letter
	count, places  int
	report         *report.Report
	past           [api.Cells][]past
	want           map[int]report.Race
}

func newMemory(t *testing.T) *memory {
	t.Helper()
	few, errno := watch.New(4, 1<<20)
	if errno != api.OK {
		t.Fatal(errno)
	}
	all, errno := watch.New(256, 1<<20)
	if errno != api.OK {
		t.Fatal(errno)
	}
	return &memory{few: few, all: all, living: []int{0}, count: 1, report: report.New(), want: map[int]report.Race{}}
}

func (m *memory) spawn(parent int) {
	if !m.few.Room() || m.count == 256 {
		return
	}
	m.few.Spawn(parent, m.count)
	m.all.Spawn(parent, m.count)
	m.few.Tell(parent)
	m.all.Tell(parent)
	m.living = append(m.living, m.count)
	m.count++
}

func (m *memory) tell(g int) {
	few, _ := m.few.Tell(g)
	all, _ := m.all.Tell(g)
	m.letters = append(m.letters, letter{few, all})
}

func (m *memory) fetch(g int, at int) {
	m.few.Know(g, m.letters[at].few)
	m.all.Know(g, m.letters[at].all)
	m.letters = slices.Delete(m.letters, at, at+1)
}

func (m *memory) exit(at int) {
	m.exited = append(m.exited, m.living[at])
	m.living = slices.Delete(m.living, at, at+1)
}

// access does one in the report, and tells whether that agrees with all accesses of that cell ahead.
func (m *memory) access(t *testing.T, g, i int, write bool) {
	t.Helper()
	c, _ := m.all.Clock(g)
	with := cell.None
	for _, a := range m.past[i] {
		unknown := a.g != g && a.number > c.Get(a.g) && (a.write || write)
		if unknown && a.write {
			with = cell.Wrote
		} else if unknown && with == cell.None {
			with = cell.Read
		}
	}
	m.past[i] = append(m.past[i], past{g, m.all.Epoch(g).Clock(), write})
	_, was := m.want[i]
	first := with != cell.None && !was
	if first {
		m.want[i] = report.Race{Cell: i, At: m.places, G: g, With: with, Write: write}
	}
	few, _ := m.few.Clock(g)
	if got, errno := m.report.Put(report.Access{At: m.places, G: g, Cell: i, Write: write}, m.few.Epoch(g), few); got != first || errno != api.OK {
		t.Fatalf("%t, %v, not %t: cell %d, by %d, a write: %t, behind %v", got, errno, first, i, g, write, m.past[i])
	}
	m.places++
}

// compact retires those that exited and are settled: how many. What is settled is held against tids for ever.
func (m *memory) compact(t *testing.T) int {
	t.Helper()
	var living, held, forever, letters []*clock.Clock
	for _, g := range m.living {
		c, _ := m.few.Clock(g)
		living = append(living, c)
		c, _ = m.all.Clock(g)
		forever = append(forever, c)
	}
	for _, x := range m.letters {
		held, letters = append(held, x.few), append(letters, x.all)
	}
	var tids []int
	whose := map[int]int{}
	for _, g := range m.exited {
		tid, _ := m.few.Tid(g)
		tids, whose[tid] = append(tids, tid), g
	}
	var want []retire.Cut
	for _, tid := range tids {
		if cut, ok := retire.Of(whose[tid], forever, letters); ok {
			want = append(want, retire.Cut{Tid: tid, At: cut})
		}
	}
	cuts := retire.All(tids, living, held)
	if !slices.Equal(cuts, want) {
		t.Fatalf("%v, not %v", cuts, want)
	}
	for _, x := range cuts {
		g := whose[x.Tid]
		m.few.Retire(g)
		m.report.Retire(x.Tid, x.At)
		for _, l := range m.letters {
			l.few.Set(x.Tid, 0)
		}
		m.exited = slices.DeleteFunc(m.exited, func(o int) bool { return o == g })
	}
	return len(cuts)
}

// TestFirstRacesAreThoseOfAllAccesses: the first race of each cell is told just where an access is not known to a later one,
// with tids that are given again to others.
func TestFirstRacesAreThoseOfAllAccesses(t *testing.T) {
	r := rand.New(rand.NewSource(192))
	retired, again, races, quiet := 0, 0, [3]int{}, 0
	for range 1500 {
		m := newMemory(t)
		talk := r.Intn(16)
		for range 120 {
			g := m.living[r.Intn(len(m.living))]
			switch n := r.Intn(24); {
			case n < 3:
				m.spawn(g)
			case n < 5 && len(m.living) > 1:
				m.exit(r.Intn(len(m.living)))
			case n < 6:
				retired += m.compact(t)
			case n < 6+talk/2:
				m.tell(g)
			case n < 6+talk && len(m.letters) > 0:
				m.fetch(g, r.Intn(len(m.letters)))
			default:
				m.access(t, g, r.Intn(api.Cells), r.Intn(6) == 0)
			}
		}
		if m.count > 4 {
			again++
		}
		for i := range api.Cells {
			race, ok := m.report.First(i)
			if want, is := m.want[i]; race != want || ok != is {
				t.Fatalf("First(%d): %v, %t, not %v, %t", i, race, ok, want, is)
			}
			races[race.With]++
			if !ok && len(m.past[i]) > 3 {
				quiet++
			}
		}
		if len(m.report.Races()) != len(m.want) {
			t.Fatalf("%v, not %v", m.report.Races(), m.want)
		}
	}
	if retired < 500 || again < 300 || races[cell.Wrote] < 200 || races[cell.Read] < 200 || quiet < 200 {
		t.Errorf("retired: %d, with tids given again: %d, races: %v, quiet: %d", retired, again, races, quiet)
	}
}
