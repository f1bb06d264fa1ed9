package walk_test

import (
	"math"
	"math/rand"
	"slices"
	"testing"

	"staithe/api"
	"staithe/walk"
)

// spot is a place of whole numbers.
type spot struct{ x, y int }

func (s spot) complex() complex128 { return complex(float64(s.x), float64(s.y)) }

func spots(p []complex128) []spot {
	var l []spot
	for _, z := range p {
		l = append(l, spot{int(real(z)), int(imag(z))})
	}
	return l
}

func complexes(l []spot) []complex128 {
	var p []complex128
	for _, s := range l {
		p = append(p, s.complex())
	}
	return p
}

// walked is the path of a trace and the last direction, step by step, on whole numbers.
func walked(l []api.Event) ([]spot, spot) {
	at, way := spot{}, spot{1, 0}
	path := []spot{at}
	for _, e := range l {
		if e.Kind != 13 && e.G >= 0 && e.G <= 511 {
			k := e.Kind
			for range ((k % 4) + 4) % 4 {
				way = spot{-way.y, way.x}
			}
			for range 1 + e.G%4 {
				at = spot{at.x + way.x, at.y + way.y}
			}
		}
		path = append(path, at)
	}
	return path, way
}

// clean tells that no part is a nought below 0, or no whole number.
func clean(z complex128) bool {
	whole := func(x float64) bool { return x == math.Trunc(x) && (x != 0 || !math.Signbit(x)) }
	return whole(real(z)) && whole(imag(z))
}

// follows holds Path and End against the steps.
func follows(t *testing.T, l []api.Event) []complex128 {
	t.Helper()
	want, way := walked(l)
	p, errno := walk.Path(l)
	if errno != api.OK || !slices.Equal(spots(p), want) || !slices.Equal(p, complexes(want)) {
		t.Fatalf("Path: %v, %v, not %v: %v", p, errno, want, l)
	}
	place, direction, errno := walk.End(l)
	if errno != api.OK || place != p[len(p)-1] || direction != way.complex() {
		t.Fatalf("End: %v, %v, %v, not %v, %v: %v", place, direction, errno, p[len(p)-1], way, l)
	}
	for _, z := range append(p, place, direction) {
		if !clean(z) {
			t.Fatalf("%v: %v", z, l)
		}
	}
	return p
}

var (
	kinds = []int{math.MinInt, math.MinInt + 1, -1 << 40, -13, -5, -4, -3, -2, -1, 0, 1, 2, 3, 4, 5, 6, 7, 8, 9, 10, 11, 12, 13, 14, 15, 16, 17, 1 << 40, math.MaxInt - 1, math.MaxInt}
	ids   = []int{math.MinInt, -512, -4, -1, 0, 1, 2, 3, 4, 5, 6, 7, 255, 256, 509, 510, 511, 512, 513, 1024, 1 << 40, math.MaxInt}
)

// drawnTrace is one of any events; most of them walk.
func drawnTrace(r *rand.Rand, n int) []api.Event {
	l := make([]api.Event, n)
	for i := range l {
		l[i] = api.Event{Kind: 1 + r.Intn(13), G: r.Intn(512), Chan: r.Intn(9) - 1, Value: r.Intn(99), Mate: r.Intn(512), Send: r.Intn(2) == 0}
		if r.Intn(5) == 0 {
			l[i].Kind = kinds[r.Intn(len(kinds))]
		}
		if r.Intn(5) == 0 {
			l[i].G = ids[r.Intn(len(ids))]
		}
	}
	return l
}

// drawnPlaces has many that are met again.
func drawnPlaces(r *rand.Rand, n, size int) []complex128 {
	p := make([]complex128, n)
	for i := range p {
		p[i] = spot{r.Intn(2*size+1) - size, r.Intn(2*size+1) - size}.complex()
	}
	return p
}

func TestTurn(t *testing.T) {
	turns := []complex128{1, complex(0, 1), -1, complex(0, -1)}
	for k, want := range map[int]complex128{0: 1, 1: turns[1], 2: -1, 3: turns[3], 4: 1, 5: turns[1], 12: 1, 13: turns[1],
		-1: turns[3], -2: -1, -3: turns[1], -4: 1, -5: turns[3],
		math.MinInt: 1, math.MinInt + 1: turns[1], math.MaxInt: turns[3], math.MaxInt - 1: -1} {
		if z := walk.Turn(k); z != want || !clean(z) {
			t.Errorf("Turn(%d): %v, not %v", k, z, want)
		}
	}
	for k := -50; k < 50; k++ {
		if walk.Turn(k)*1i != walk.Turn(k+1) || walk.Turn(k)*walk.Turn(-k) != 1 {
			t.Errorf("Turn(%d): %v", k, walk.Turn(k))
		}
	}
}

func TestExample(t *testing.T) {
	p := follows(t, []api.Event{{Kind: api.EvSpawn}, {Kind: api.EvRead, G: 1}})
	if want := []complex128{0, 1i, 1i - 2}; !slices.Equal(p, want) {
		t.Errorf("%v", p)
	}
}

// TestOneEvent goes through kinds and goroutines, those that are none among them.
func TestOneEvent(t *testing.T) {
	for _, kind := range kinds {
		for _, g := range ids {
			for _, first := range kinds {
				follows(t, []api.Event{{Kind: first, G: 2}, {Kind: kind, G: g, Chan: 3, Value: 7, Mate: 1, Send: true, OK: true}})
			}
		}
	}
	for g := -3; g < 520; g++ {
		follows(t, []api.Event{{Kind: 1, G: g}})
	}
}

// TestWhatDoesNothing: it does not even turn.
func TestWhatDoesNothing(t *testing.T) {
	for _, e := range []api.Event{{Kind: 13, G: -1}, {Kind: 13}, {Kind: 13, G: 511}, {Kind: 1, G: -1}, {Kind: 2, G: 512}, {Kind: 3, G: math.MaxInt}, {Kind: 1, G: math.MinInt}} {
		p := follows(t, []api.Event{e, {Kind: 4, G: 0}, e, e})
		if !slices.Equal(p, []complex128{0, 0, 1, 1, 1}) {
			t.Errorf("%v: %v", e, p)
		}
	}
}

func TestNoEvent(t *testing.T) {
	for _, l := range [][]api.Event{nil, {}} {
		if p := follows(t, l); !slices.Equal(p, []complex128{0}) {
			t.Errorf("%v", p)
		}
	}
}

func TestLength(t *testing.T) {
	r := rand.New(rand.NewSource(27))
	for _, n := range []int{1999, 2000} {
		follows(t, drawnTrace(r, n))
	}
	straight := slices.Repeat([]api.Event{{Kind: 4, G: 3}}, 2000)
	if z, d, errno := walk.End(straight); z != 8000 || d != 1 || errno != api.OK {
		t.Errorf("%v, %v, %v", z, d, errno)
	}
	for _, n := range []int{2001, 2002, 5000} {
		l := drawnTrace(r, n)
		if p, errno := walk.Path(l); len(p) != 0 || errno != api.ErrLong {
			t.Errorf("%d: %d, %v", n, len(p), errno)
		}
		if z, d, errno := walk.End(l); z != 0 || d != 0 || errno != api.ErrLong {
			t.Errorf("%d: %v, %v, %v", n, z, d, errno)
		}
	}
	if _, errno := walk.Path(make([]api.Event, 2001)); errno != api.ErrLong {
		t.Errorf("zero events: %v", errno)
	}
	compacts := slices.Repeat([]api.Event{{Kind: 13, G: -1}}, 2001) // they count, though they do nothing
	if _, _, errno := walk.End(compacts); errno != api.ErrLong {
		t.Errorf("Compacts: %v", errno)
	}
}

func TestDrawnTraces(t *testing.T) {
	r := rand.New(rand.NewSource(271))
	for range 3000 {
		l := drawnTrace(r, r.Intn(60))
		kept := slices.Clone(l)
		p := follows(t, l)
		again, _ := walk.Path(l)
		for i := range p {
			p[i] = 99
		}
		if !slices.Equal(l, kept) || !slices.Equal(again, follows(t, l)) {
			t.Fatalf("changed: %v", l)
		}
	}
}

// boxed holds Box against the sorted parts.
func boxed(t *testing.T, p []complex128) {
	t.Helper()
	a, b, ok := walk.Box(p)
	if len(p) == 0 {
		if a != 0 || b != 0 || ok {
			t.Fatalf("%v, %v, %t of nothing", a, b, ok)
		}
		return
	}
	var xs, ys []int
	for _, s := range spots(p) {
		xs, ys = append(xs, s.x), append(ys, s.y)
	}
	slices.Sort(xs)
	slices.Sort(ys)
	n := len(p) - 1
	if least, greatest := (spot{xs[0], ys[0]}), (spot{xs[n], ys[n]}); a != least.complex() || b != greatest.complex() || !ok {
		t.Fatalf("%v, %v, %t, not %v, %v: %v", a, b, ok, least, greatest, p)
	}
}

// met holds Twice against all pairs.
func met(t *testing.T, p []complex128) bool {
	t.Helper()
	i, k, ok := walk.Twice(p)
	l := spots(p)
	for b := range l {
		for a := range b {
			if l[a] == l[b] {
				if i != a || k != b || !ok {
					t.Fatalf("%d, %d, %t, not %d, %d: %v", i, k, ok, a, b, p)
				}
				return true
			}
		}
	}
	if i != 0 || k != 0 || ok {
		t.Fatalf("%d, %d, %t, though none is met twice: %v", i, k, ok, p)
	}
	return false
}

// doubled is twice the area, on whole numbers.
func doubled(p []complex128) int {
	l := spots(p)
	sum := 0
	for i, a := range l {
		b := l[0]
		if i+1 < len(l) {
			b = l[i+1]
		}
		sum += a.x*b.y - a.y*b.x
	}
	return sum
}

func filled(t *testing.T, p []complex128) {
	t.Helper()
	if n := walk.Area(p); n*2 != float64(doubled(p)) || n == 0 && math.Signbit(n) {
		t.Fatalf("%v, not half of %d: %v", n, doubled(p), p)
	}
}

func TestPlacesThatAreDrawn(t *testing.T) {
	r := rand.New(rand.NewSource(272))
	twice := [2]int{}
	for range 4000 {
		p := drawnPlaces(r, r.Intn(12), []int{1, 3, 100, 10000}[r.Intn(4)])
		kept := slices.Clone(p)
		boxed(t, p)
		filled(t, p)
		if met(t, p) {
			twice[1]++
		} else {
			twice[0]++
		}
		if !slices.Equal(p, kept) {
			t.Fatalf("%v was %v", p, kept)
		}
	}
	if min(twice[0], twice[1]) < 500 {
		t.Errorf("twice: %v", twice)
	}
}

// TestManyPlaces: 2001 of the greatest size; sums are exact.
func TestManyPlaces(t *testing.T) {
	r := rand.New(rand.NewSource(273))
	for range 20 {
		p := drawnPlaces(r, 2001, 10000)
		boxed(t, p)
		met(t, p)
		filled(t, p)
	}
	corners := []complex128{complex(-10000, -10000), complex(10000, -10000), complex(10000, 10000), complex(-10000, 10000)}
	p := slices.Repeat(corners, 500)
	p = append(p, corners[0])
	if n := walk.Area(p); n != 500*20000*20000 {
		t.Errorf("%v", n)
	}
	filled(t, p)
	row := make([]complex128, 2001) // nowhere twice, up to the last one
	for i := range row {
		row[i] = complex(float64(i), -5)
	}
	if met(t, row) {
		t.Error("a row")
	}
	row[2000] = row[0]
	if i, k, ok := walk.Twice(row); i != 0 || k != 2000 || !ok {
		t.Errorf("%d, %d, %t", i, k, ok)
	}
}

func TestPlaces(t *testing.T) {
	for _, p := range [][]complex128{nil, {}, {0}, {3 - 4i}, {3 - 4i, -3 + 4i}, {5, 5}, {1, 2, 1, 2}, {2, 1, 1, 2}} {
		boxed(t, p)
		met(t, p)
		filled(t, p)
	}
	// The first that is met again counts, not the first that will be.
	if i, k, ok := walk.Twice([]complex128{1, 2, 3, 2, 1, 2}); i != 1 || k != 3 || !ok {
		t.Errorf("%d, %d, %t", i, k, ok)
	}
	if i, k, ok := walk.Twice([]complex128{0, 7, 7, 7}); i != 1 || k != 2 || !ok {
		t.Errorf("%d, %d, %t", i, k, ok)
	}
	if i, k, ok := walk.Twice([]complex128{1, 1i, -1, -1i}); i != 0 || k != 0 || ok {
		t.Errorf("%d, %d, %t", i, k, ok)
	}
	// To the left, it is above 0; half numbers are told.
	for _, x := range []struct {
		p    []complex128
		area float64
	}{{[]complex128{0, 2, 2 + 2i, 2i}, 4}, {[]complex128{0, 2i, 2 + 2i, 2}, -4}, {[]complex128{0, 1, 1i}, 0.5}, {[]complex128{5 + 5i, 5 + 6i, 6 + 5i}, -0.5}, {[]complex128{0, 3, 7}, 0}} {
		if n := walk.Area(x.p); n != x.area {
			t.Errorf("%v: %v, not %v", x.p, n, x.area)
		}
	}
	a, b, ok := walk.Box([]complex128{3 - 4i, -1 + 2i})
	if a != -1-4i || b != 3+2i || !ok {
		t.Errorf("%v, %v, %t", a, b, ok)
	}
}

// TestAnyNumbers: what is no whole number ends, too.
func TestAnyNumbers(t *testing.T) {
	wild := []float64{math.NaN(), math.Inf(1), math.Inf(-1), 0, math.MaxFloat64, -math.MaxFloat64, 0.5, math.SmallestNonzeroFloat64}
	var p []complex128
	for _, x := range wild {
		for _, y := range wild {
			p = append(p, complex(x, y))
		}
	}
	walk.Area(p)
	walk.Twice(p)
	if _, _, ok := walk.Box(p); !ok {
		t.Error("there is a place")
	}
}

// TestOneBehindTheOther is 27.3.
func TestOneBehindTheOther(t *testing.T) {
	r := rand.New(rand.NewSource(274))
	for range 2000 {
		first, second := drawnTrace(r, r.Intn(25)), drawnTrace(r, r.Intn(25))
		p, _ := walk.Path(first)
		place, direction, _ := walk.End(first)
		q, _ := walk.Path(second)
		for _, z := range q[1:] {
			p = append(p, place+direction*z)
		}
		whole, errno := walk.Path(slices.Concat(first, second))
		if errno != api.OK || !slices.Equal(whole, p) {
			t.Fatalf("%v, not %v: %v, %v", whole, p, first, second)
		}
		z, d, _ := walk.End(second)
		end, way, errno := walk.End(slices.Concat(first, second))
		if errno != api.OK || end != place+direction*z || way != direction*d {
			t.Fatalf("%v, %v: %v, %v", end, way, first, second)
		}
	}
}

// TestAreas is 27.4: of paths of traces, and of drawn ones.
func TestAreas(t *testing.T) {
	r := rand.New(rand.NewSource(275))
	for i := range 2000 {
		p, _ := walk.Path(drawnTrace(r, r.Intn(30)))
		if i%2 == 0 {
			p = drawnPlaces(r, r.Intn(30), 10000)
		}
		n := walk.Area(p)
		filled(t, p)
		for k := range 4 {
			turned := make([]complex128, len(p))
			for i, z := range p {
				turned[i] = walk.Turn(k) * z
			}
			if walk.Area(turned) != n {
				t.Fatalf("turned by %d: %v, not %v: %v", k, walk.Area(turned), n, p)
			}
		}
		slices.Reverse(p)
		if walk.Area(p) != -n {
			t.Fatalf("backwards: %v, not %v: %v", walk.Area(p), -n, p)
		}
	}
}
