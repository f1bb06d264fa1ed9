package ring_test

import (
	"math"
	"slices"
	"testing"

	"staithe/api"
	"staithe/ring"
)

func empty(t *testing.T, size int) *ring.Ring {
	t.Helper()
	r, errno := ring.New(size)
	if r == nil || errno != api.OK {
		t.Fatalf("New(%d): %v", size, errno)
	}
	return r
}

// holds asks a ring all that can be asked without changing it.
func holds(t *testing.T, what string, r *ring.Ring, size int, want []int) {
	t.Helper()
	if r.Len() != len(want) || r.Cap() != size {
		t.Fatalf("%s: Len %d, Cap %d, not %d, %d", what, r.Len(), r.Cap(), len(want), size)
	}
	if l := r.List(); !slices.Equal(l, want) {
		t.Fatalf("%s: List: %v, not %v", what, l, want)
	}
	for i, v := range want {
		if got, errno := r.At(i); got != v || errno != api.OK {
			t.Fatalf("%s: At(%d): %d, %v, not %d", what, i, got, errno, v)
		}
	}
	for _, i := range []int{math.MinInt, -api.MaxCap, -1, len(want), len(want) + 1, size, api.MaxCap, math.MaxInt - 3, math.MaxInt} {
		if i >= 0 && i < len(want) {
			continue
		}
		if got, errno := r.At(i); got != 0 || errno != api.ErrNone {
			t.Fatalf("%s: At(%d): %d, %v, not ErrNone", what, i, got, errno)
		}
	}
}

// pair is a ring beside a plain list of what it must hold.
type pair struct {
	r    *ring.Ring
	size int
	want []int
}

func (p *pair) push(t *testing.T, v int) {
	t.Helper()
	want := api.OK
	if len(p.want) == p.size {
		want = api.ErrFull
	} else {
		p.want = append(p.want, v)
	}
	if errno := p.r.Push(v); errno != want {
		t.Fatalf("Push(%d): %v, not %v", v, errno, want)
	}
	holds(t, "behind Push", p.r, p.size, p.want)
}

// out is what comes out of the list: its first value.
func (p *pair) out() (int, api.Errno) {
	if len(p.want) == 0 {
		return 0, api.ErrNone
	}
	v := p.want[0]
	p.want = p.want[1:]
	return v, api.OK
}

func (p *pair) pop(t *testing.T) {
	t.Helper()
	v, want := p.out()
	if got, errno := p.r.Pop(); got != v || errno != want {
		t.Fatalf("Pop: %d, %v, not %d, %v", got, errno, v, want)
	}
	holds(t, "behind Pop", p.r, p.size, p.want)
}

func (p *pair) turn(t *testing.T, v int) {
	t.Helper()
	first, want := p.out()
	if want == api.OK {
		p.want = append(p.want, v)
	}
	if got, errno := p.r.Turn(v); got != first || errno != want {
		t.Fatalf("Turn(%d): %d, %v, not %d, %v", v, got, errno, first, want)
	}
	holds(t, "behind Turn", p.r, p.size, p.want)
}

func TestNew(t *testing.T) {
	for size := 0; size <= api.MaxCap; size++ {
		holds(t, "New", empty(t, size), size, nil)
	}
	for _, size := range []int{math.MinInt, -api.MaxCap, -1, api.MaxCap + 1, api.MaxCap + 2, 1 << 32, math.MaxInt} {
		if r, errno := ring.New(size); r != nil || errno != api.ErrArg {
			t.Errorf("New(%d): %v, %v, not ErrArg", size, r, errno)
		}
	}
}

func TestExample(t *testing.T) {
	r := empty(t, 2)
	for i, want := range []api.Errno{api.OK, api.OK, api.ErrFull} {
		if errno := r.Push(i + 1); errno != want {
			t.Errorf("Push(%d): %v, not %v", i+1, errno, want)
		}
	}
	if v, errno := r.Turn(3); v != 1 || errno != api.OK {
		t.Errorf("Turn(3): %d, %v", v, errno)
	}
	holds(t, "behind Turn", r, 2, []int{2, 3})
}

// TestAllPathsOfNineCalls goes each way of pushes, pops and turns, with each capacity: full, empty and around among them.
func TestAllPathsOfNineCalls(t *testing.T) {
	const calls = 9
	paths := 1
	for range calls {
		paths *= 3
	}
	for size := 0; size <= api.MaxCap; size++ {
		for path := range paths {
			p := &pair{r: empty(t, size), size: size}
			for i, rest := 0, path; i < calls; i, rest = i+1, rest/3 {
				switch rest % 3 {
				case 0:
					p.push(t, 10+i)
				case 1:
					p.pop(t)
				default:
					p.turn(t, 10+i)
				}
			}
		}
	}
}

func TestFirstInFirstOutLongAround(t *testing.T) {
	for size := 1; size <= api.MaxCap; size++ {
		for fill := 1; fill <= size; fill++ {
			p := &pair{r: empty(t, size), size: size}
			for v := range 40 {
				for len(p.want) < fill {
					p.push(t, 100*v+len(p.want))
				}
				if v%3 == 0 {
					p.turn(t, -v)
				}
				p.pop(t)
			}
		}
	}
}

func TestAllNumbersAreValues(t *testing.T) {
	values := []int{math.MinInt, -1, 0, math.MaxInt}
	p := &pair{r: empty(t, len(values)), size: len(values)}
	for _, v := range values {
		p.push(t, v)
	}
	for _, v := range values {
		p.turn(t, v)
	}
	for range values {
		p.pop(t)
	}
	p.pop(t)
}

func TestErrorsChangeNothing(t *testing.T) {
	full := &pair{r: empty(t, 3), size: 3}
	for v := range 3 {
		full.push(t, v)
	}
	for range 5 {
		full.push(t, 7)
	}
	none := &pair{r: empty(t, 3), size: 3}
	for range 5 {
		none.pop(t)
		none.turn(t, 7)
	}
	none.push(t, 1)
}

func TestListIsNewMemory(t *testing.T) {
	r := empty(t, 4)
	for v := range 3 {
		r.Push(v)
	}
	a, b := r.List(), r.List()
	for _, l := range [][]int{a, b[:cap(b)]} {
		for i := range l {
			l[i] = 99
		}
		_ = append(l, 98)
	}
	holds(t, "behind changes of lists", r, 4, []int{0, 1, 2})
	before := r.List()
	r.Turn(3)
	r.Push(4)
	if !slices.Equal(before, []int{0, 1, 2}) {
		t.Errorf("a list changed with its ring: %v", before)
	}
}

func TestRingsAreApart(t *testing.T) {
	a, b := &pair{r: empty(t, 2), size: 2}, &pair{r: empty(t, 2), size: 2}
	for v := range 6 {
		a.push(t, v)
		b.push(t, -v)
		b.turn(t, 50+v)
		if v%2 == 1 {
			a.pop(t)
		}
	}
	holds(t, "a", a.r, 2, a.want)
	holds(t, "b", b.r, 2, b.want)
}

func TestNilRing(t *testing.T) {
	var r *ring.Ring
	for range 2 {
		if errno := r.Push(1); errno != api.ErrFull {
			t.Errorf("Push: %v", errno)
		}
		if v, errno := r.Pop(); v != 0 || errno != api.ErrNone {
			t.Errorf("Pop: %d, %v", v, errno)
		}
		if v, errno := r.Turn(1); v != 0 || errno != api.ErrNone {
			t.Errorf("Turn: %d, %v", v, errno)
		}
		holds(t, "nil", r, 0, nil)
	}
}
