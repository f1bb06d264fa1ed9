package pew_test

import (
	"math"
	"slices"
	"testing"

	"staithe/api"
	"staithe/pew"
)

// most is how many may stand in a pew, as the document says.
const most = 1024

// holds asks a pew all that can be asked without changing it.
func holds(t *testing.T, what string, p *pew.Pew, want []pew.Waiter) {
	t.Helper()
	if p.Len() != len(want) {
		t.Fatalf("%s: Len: %d, not %d", what, p.Len(), len(want))
	}
	if l := p.List(); !slices.Equal(l, want) {
		t.Fatalf("%s: List: %v, not %v", what, l, want)
	}
	var first pew.Waiter
	if len(want) > 0 {
		first = want[0]
	}
	if w, ok := p.First(); w != first || ok != (len(want) > 0) {
		t.Fatalf("%s: First: %v, %t, not %v", what, w, ok, first)
	}
	for _, g := range []int{math.MinInt, -1, 0, 1, 2, 3, most, math.MaxInt} {
		has := slices.ContainsFunc(want, func(w pew.Waiter) bool { return w.G == g })
		if p.Has(g) != has {
			t.Fatalf("%s: Has(%d): not %t", what, g, has)
		}
	}
}

// pair is a pew beside a plain list of who must stand there.
type pair struct {
	p    *pew.Pew
	want []pew.Waiter
}

func (x *pair) add(t *testing.T, w pew.Waiter) {
	t.Helper()
	if errno := x.p.Add(w); errno != api.OK {
		t.Fatalf("Add(%v): %v", w, errno)
	}
	x.want = append(x.want, w)
	holds(t, "behind Add", x.p, x.want)
}

func (x *pair) take(t *testing.T) {
	t.Helper()
	var first pew.Waiter
	one := len(x.want) > 0
	if one {
		first, x.want = x.want[0], x.want[1:]
	}
	if w, ok := x.p.Take(); w != first || ok != one {
		t.Fatalf("Take: %v, %t, not %v, %t", w, ok, first, one)
	}
	holds(t, "behind Take", x.p, x.want)
}

func (x *pair) drop(t *testing.T, g int) {
	t.Helper()
	var stay []pew.Waiter
	for _, w := range x.want {
		if w.G != g {
			stay = append(stay, w)
		}
	}
	gone := len(x.want) - len(stay)
	x.want = stay
	if n := x.p.Drop(g); n != gone {
		t.Fatalf("Drop(%d): %d, not %d", g, n, gone)
	}
	holds(t, "behind Drop", x.p, x.want)
}

// of is a pew with waiters of goroutines, told apart by their values.
func of(t *testing.T, goroutines ...int) *pair {
	t.Helper()
	x := &pair{p: pew.New()}
	for i, g := range goroutines {
		x.add(t, pew.Waiter{G: g, Case: i - 1, Value: 10 * i})
	}
	return x
}

func TestNewIsEmpty(t *testing.T) {
	p := pew.New()
	if p == nil {
		t.Fatal("New is nil")
	}
	holds(t, "New", p, nil)
}

func TestExample(t *testing.T) {
	x := of(t, 1, 2, 1)
	if n := x.p.Drop(1); n != 2 {
		t.Errorf("Drop(1): %d", n)
	}
	if w, ok := x.p.Take(); w.G != 2 || !ok {
		t.Errorf("Take: %v, %t", w, ok)
	}
}

func TestAddOfRightWaiters(t *testing.T) {
	x := of(t)
	for _, g := range []int{0, 1, 2, math.MaxInt} {
		for _, c := range []int{-1, 0, api.MaxCases, math.MaxInt} {
			for _, v := range []int{math.MinInt, -1, 0, api.MaxValue + 1, math.MaxInt} {
				x.add(t, pew.Waiter{G: g, Case: c, Value: v})
			}
		}
	}
	x.drop(t, math.MaxInt)
	for range len(x.want) + 1 {
		x.take(t)
	}
}

// wrong are waiters that no pew takes.
func wrong() []pew.Waiter {
	return []pew.Waiter{
		{G: -1}, {G: -1, Case: -1}, {G: -1, Case: -2}, {G: math.MinInt}, {G: math.MinInt, Case: math.MinInt, Value: 1},
		{Case: -2}, {G: 3, Case: -2, Value: 5}, {G: math.MaxInt, Case: math.MinInt},
	}
}

func TestAddOfWrongWaiters(t *testing.T) {
	full := filled(t)
	for _, w := range wrong() {
		for _, x := range []*pair{of(t), of(t, 1, 2), full} {
			if errno := x.p.Add(w); errno != api.ErrArg {
				t.Errorf("Add(%v) to %d: %v, not ErrArg", w, len(x.want), errno)
			}
			holds(t, "behind a wrong Add", x.p, x.want)
		}
	}
}

// filled is a pew without room; goroutine 1 has each other seat.
func filled(t *testing.T) *pair {
	t.Helper()
	x := &pair{p: pew.New()}
	for i := range most {
		w := pew.Waiter{G: 1 + i%2, Case: -1, Value: i}
		if errno := x.p.Add(w); errno != api.OK {
			t.Fatalf("Add to %d: %v", i, errno)
		}
		x.want = append(x.want, w)
	}
	holds(t, "filled", x.p, x.want)
	return x
}

func TestAddToAFullPew(t *testing.T) {
	x := filled(t)
	refused := func() {
		t.Helper()
		if errno := x.p.Add(pew.Waiter{G: 3}); errno != api.ErrFull {
			t.Fatalf("Add to a full pew: %v, not ErrFull", errno)
		}
		holds(t, "behind ErrFull", x.p, x.want)
	}
	refused()
	refused()
	x.take(t)
	x.add(t, pew.Waiter{G: 3, Value: 7})
	refused()
	x.drop(t, 2)
	for len(x.want) < most {
		x.add(t, pew.Waiter{G: 0, Value: len(x.want)})
	}
	refused()
	for range most + 1 {
		x.take(t)
	}
	x.add(t, pew.Waiter{G: 2})
}

// TestDropsOfAllShapes has goroutine 1 stand at each set of places among six: first, last, in runs, nowhere, everywhere.
// Behind its drop others come and go on: the last place must be right, too.
func TestDropsOfAllShapes(t *testing.T) {
	const places = 6
	for n := range places + 1 {
		for set := range 1 << n {
			goroutines := make([]int, n)
			for i := range goroutines {
				goroutines[i] = 2 + i%2
				if set>>i&1 == 1 {
					goroutines[i] = 1
				}
			}
			x := of(t, goroutines...)
			x.drop(t, 1)
			x.drop(t, 1)
			x.add(t, pew.Waiter{G: 1, Value: -1})
			x.add(t, pew.Waiter{G: 3, Value: -2})
			x.drop(t, 3)
			x.add(t, pew.Waiter{G: 0, Value: -3})
			for range n + 3 {
				x.take(t)
			}
		}
	}
}

// TestAllPathsOfEightCalls goes each way of adds, takes and drops of two goroutines.
func TestAllPathsOfEightCalls(t *testing.T) {
	const calls, ways = 8, 5
	paths := 1
	for range calls {
		paths *= ways
	}
	for path := range paths {
		x := &pair{p: pew.New()}
		for i, rest := 0, path; i < calls; i, rest = i+1, rest/ways {
			switch way := rest % ways; way {
			case 0, 1:
				x.add(t, pew.Waiter{G: way, Case: i % 3, Value: i})
			case 2:
				x.take(t)
			default:
				x.drop(t, way-3)
			}
		}
	}
}

func TestDropOfNobody(t *testing.T) {
	for _, g := range []int{math.MinInt, -1, 0, 4, math.MaxInt} {
		of(t).drop(t, g)
		of(t, 1, 2, 1, 3).drop(t, g)
	}
}

func TestListIsNewMemory(t *testing.T) {
	x := of(t, 1, 2, 3)
	a, b := x.p.List(), x.p.List()
	for _, l := range [][]pew.Waiter{a, b[:cap(b)]} {
		for i := range l {
			l[i] = pew.Waiter{G: 9}
		}
		_ = append(l, pew.Waiter{G: 8})
	}
	holds(t, "behind changes of lists", x.p, x.want)
	before := x.p.List()
	kept := slices.Clone(before)
	x.take(t)
	x.drop(t, 3)
	x.add(t, pew.Waiter{G: 0})
	if !slices.Equal(before, kept) {
		t.Errorf("a list changed with its pew: %v", before)
	}
}

func TestPewsAreApart(t *testing.T) {
	a, b := of(t, 1, 2, 1), of(t, 1, 3)
	a.drop(t, 1)
	b.take(t)
	a.add(t, pew.Waiter{G: 3})
	b.drop(t, 3)
	holds(t, "a", a.p, a.want)
	holds(t, "b", b.p, b.want)
}

func TestNilPew(t *testing.T) {
	var p *pew.Pew
	for range 2 {
		if errno := p.Add(pew.Waiter{G: 1, Case: -1}); errno != api.ErrState {
			t.Errorf("Add: %v, not ErrState", errno)
		}
		for _, w := range wrong() {
			if errno := p.Add(w); errno != api.ErrArg {
				t.Errorf("Add(%v): %v, not ErrArg", w, errno)
			}
		}
		if w, ok := p.Take(); w != (pew.Waiter{}) || ok {
			t.Errorf("Take: %v, %t", w, ok)
		}
		for _, g := range []int{math.MinInt, -1, 0, 1, math.MaxInt} {
			if n := p.Drop(g); n != 0 {
				t.Errorf("Drop(%d): %d", g, n)
			}
		}
		holds(t, "nil", p, nil)
	}
}
