package cell_test

import (
	"math/rand"
	"testing"

	"staithe/api"
	"staithe/cell"
	"staithe/clock"
	"staithe/watch"
)

// past is an access that was: whose, and at which of its numbers.
type past struct {
	g, number int
	write     bool
}

// pair are goroutines with tids that are given again, beside the same ones with tids of their own for ever.
type pair struct {
	few, all *watch.Watch
	living   []int
	count    int
}

func newPair(t *testing.T) *pair {
	t.Helper()
	few, errno := watch.New(5, 1<<20)
	if errno != api.OK {
		t.Fatal(errno)
	}
	all, errno := watch.New(256, 1<<20)
	if errno != api.OK {
		t.Fatal(errno)
	}
	return &pair{few: few, all: all, living: []int{0}, count: 1}
}

func (p *pair) spawn(parent int) {
	if !p.few.Room() || p.count == 256 {
		return
	}
	p.few.Spawn(parent, p.count)
	p.all.Spawn(parent, p.count)
	p.few.Tell(parent)
	p.all.Tell(parent)
	p.living = append(p.living, p.count)
	p.count++
}

// tell has one tell others.
func (p *pair) tell(g int, others ...int) *clock.Clock {
	few, _ := p.few.Tell(g)
	all, _ := p.all.Tell(g)
	for _, o := range others {
		p.few.Know(o, few)
		p.all.Know(o, all)
	}
	return few
}

// leave has one tell all others, do something that nobody learns of (if it does), and be retired: its tid and its cut.
func (p *pair) leave(at int, last func(g int)) (int, int) {
	g := p.living[at]
	p.living = append(append([]int{}, p.living[:at]...), p.living[at+1:]...)
	tid, _ := p.few.Tid(g)
	cut := p.tell(g, p.living...).Get(tid)
	last(g)
	p.few.Retire(g)
	return tid, cut
}

// unknown tells of an access whether one of the accesses ahead that it may race with is not known to it: a write, a read.
func (p *pair) unknown(l []past, g int, write bool) (bool, bool) {
	wrote, read := false, false
	c, _ := p.all.Clock(g)
	for _, a := range l {
		if a.g == g || a.number <= c.Get(a.g) || !a.write && !write {
			continue
		}
		wrote, read = wrote || a.write, read || !a.write
	}
	return wrote, read
}

// TestARaceIsToldJustIfThereIsOne holds a cell against all accesses ahead, up to the first race, with tids that are given
// again.
func TestARaceIsToldJustIfThereIsOne(t *testing.T) {
	r := rand.New(rand.NewSource(183))
	told, quiet, retired := [3]int{}, 0, 0
	for range 4000 {
		p, x := newPair(t), cell.New()
		var l []past
		race := cell.None
		access := func(g int, write bool) {
			if race != cell.None {
				return
			}
			do := x.Read
			if write {
				do = x.Write
			}
			c, _ := p.few.Clock(g)
			got, errno := do(p.few.Epoch(g), c)
			want := cell.None
			if wrote, read := p.unknown(l, g, write); wrote {
				want = cell.Wrote
			} else if read {
				want = cell.Read
			}
			if got != want || errno != api.OK {
				t.Fatalf("%d, %v, not %d: %v, then by %d, a write: %t", got, errno, want, l, g, write)
			}
			l = append(l, past{g, p.all.Epoch(g).Clock(), write})
			race = got
		}
		talk := r.Intn(12)
		for range 60 {
			g := p.living[r.Intn(len(p.living))]
			switch n := r.Intn(20); {
			case n < 3:
				p.spawn(g)
			case n == 3 && len(p.living) > 1:
				retired++
				x.Retire(p.leave(r.Intn(len(p.living)), func(g int) {
					if r.Intn(3) == 0 {
						access(g, r.Intn(4) == 0)
					}
				}))
			case n < 5+talk:
				p.tell(g, p.living[r.Intn(len(p.living))])
			default:
				access(g, r.Intn(6) == 0)
			}
		}
		told[race]++
		if race == cell.None && len(l) > 5 {
			quiet++
		}
	}
	if told[cell.Wrote] < 200 || told[cell.Read] < 200 || quiet < 50 || retired < 500 {
		t.Errorf("told: %v, quiet: %d, retired: %d", told, quiet, retired)
	}
}
