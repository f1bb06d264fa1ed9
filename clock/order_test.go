package clock_test

import (
	"slices"
	"testing"

	"staithe/api"
	"staithe/clock"
)

// small are all lists of three numbers from 0 to 2.
func small() [][]int {
	var all [][]int
	for i := range 27 {
		all = append(all, []int{i / 9, i / 3 % 3, i % 3})
	}
	return all
}

func greater(a, b []int) []int {
	l := make([]int, len(a))
	for i := range a {
		l[i] = max(a[i], b[i])
	}
	return l
}

func noneGreater(a, b []int) bool {
	return slices.Equal(greater(a, b), b)
}

func TestWithinIsAnOrder(t *testing.T) {
	for _, a := range small() {
		for _, b := range small() {
			x, y := of(t, a...), of(t, b...)
			if x.Within(y) != noneGreater(a, b) {
				t.Errorf("%v within %v: %t", a, b, x.Within(y))
			}
			if x.Within(y) && y.Within(x) && !slices.Equal(x.List(), y.List()) {
				t.Errorf("%v and %v are within each other", a, b)
			}
			for _, c := range small() {
				if z := of(t, c...); x.Within(y) && y.Within(z) && !x.Within(z) {
					t.Errorf("%v within %v within %v", a, b, c)
				}
			}
		}
	}
}

func TestJoinIsTheLeastOneAround(t *testing.T) {
	for _, a := range small() {
		for _, b := range small() {
			x, y := of(t, a...), of(t, b...)
			changed := x.Join(y)
			want := trimmed(greater(a, b))
			if !slices.Equal(x.List(), want) || changed != !noneGreater(b, a) {
				t.Errorf("%v joined with %v: %v, %t", a, b, x.List(), changed)
			}
			z := of(t, b...)
			z.Join(of(t, a...))
			if !slices.Equal(x.List(), z.List()) {
				t.Errorf("%v and %v: %v or %v", a, b, x.List(), z.List())
			}
			for _, c := range small() {
				around := of(t, c...)
				both := of(t, a...).Within(around) && y.Within(around)
				if both != x.Within(around) {
					t.Errorf("%v and %v, joined %v, within %v: %t", a, b, x.List(), c, both)
				}
			}
		}
	}
}

func TestJoinInWhicheverGroups(t *testing.T) {
	for _, a := range small() {
		for _, b := range small() {
			for _, c := range small() {
				x, y := of(t, a...), of(t, b...)
				x.Join(y)
				x.Join(of(t, c...))
				y.Join(of(t, c...))
				y.Join(of(t, a...))
				if !slices.Equal(x.List(), y.List()) {
					t.Errorf("%v, %v, %v: %v or %v", a, b, c, x.List(), y.List())
				}
			}
		}
	}
}

// dice gives the same numbers in each run.
type dice uint64

func (d *dice) below(n int) int {
	*d = *d*6364136223846793005 + 1442695040888963407
	return int(uint64(*d) >> 33 % uint64(n))
}

// A long mixed run over clocks that copy and join one another, held against plain arrays.
func TestClocksAgainstPlainNumbers(t *testing.T) {
	const many = 6
	d := dice(1)
	var clocks [many]*clock.Clock
	var plain [many][api.MaxTid]int
	for i := range clocks {
		clocks[i] = clock.New()
	}
	for step := range 20000 {
		i, k, tid, n := d.below(many), d.below(many), d.below(12), d.below(4)
		if d.below(20) == 0 {
			tid = d.below(api.MaxTid)
		}
		switch d.below(6) {
		case 0:
			clocks[i], plain[i] = clocks[k].Copy(), plain[k]
		case 1:
			joined := [api.MaxTid]int(greater(plain[i][:], plain[k][:]))
			if clocks[i].Join(clocks[k]) != (joined != plain[i]) {
				t.Fatalf("step %d: Join", step)
			}
			plain[i] = joined
		case 2, 3:
			clocks[i].Set(tid, n)
			plain[i][tid] = n
		case 4:
			want := api.ErrFull
			if plain[i][tid] < 5 {
				plain[i][tid]++
				want = api.OK
			}
			if errno := clocks[i].Tick(tid, 5); errno != want {
				t.Fatalf("step %d: Tick: %v", step, errno)
			}
		case 5:
			if clocks[i].Within(clocks[k]) != noneGreater(plain[i][:], plain[k][:]) {
				t.Fatalf("step %d: Within", step)
			}
		}
		for j := range clocks {
			if !slices.Equal(clocks[j].List(), trimmed(plain[j][:])) {
				t.Fatalf("step %d: clock %d is %v, not %v", step, j, clocks[j].List(), trimmed(plain[j][:]))
			}
		}
	}
}
