package matrix_test

import (
	"math"
	"math/rand"
	"slices"
	"testing"

	"staithe/api"
	"staithe/matrix"
)

// sized is a matrix in which nothing is related.
func sized(t *testing.T, n int) *matrix.Matrix {
	t.Helper()
	m, errno := matrix.New(n)
	if errno != api.OK || m == nil {
		t.Fatalf("New(%d): %v, %v", n, m, errno)
	}
	return m
}

// relate sets pairs.
func relate(t *testing.T, m *matrix.Matrix, pairs ...[2]int) {
	t.Helper()
	for _, p := range pairs {
		if errno := m.Set(p[0], p[1]); errno != api.OK {
			t.Fatalf("Set(%d, %d): %v", p[0], p[1], errno)
		}
	}
}

// is holds all that can be asked of a matrix against truths.
func is(t *testing.T, m *matrix.Matrix, truths [][]bool) {
	t.Helper()
	n, pairs := len(truths), 0
	var loops []int
	for i := range n {
		var row, column []int
		for k := range n {
			if m.Has(i, k) != truths[i][k] {
				t.Fatalf("Has(%d, %d): %t: %v", i, k, m.Has(i, k), truths)
			}
			if truths[i][k] {
				pairs++
				row = append(row, k)
			}
			if truths[k][i] {
				column = append(column, k)
			}
		}
		if truths[i][i] {
			loops = append(loops, i)
		}
		if !slices.Equal(m.Row(i), row) || !slices.Equal(m.Column(i), column) {
			t.Fatalf("%d: row %v, column %v, not %v, %v", i, m.Row(i), m.Column(i), row, column)
		}
	}
	if m.Size() != n || m.Count() != pairs || !slices.Equal(m.Loops(), loops) {
		t.Fatalf("size %d, %d pairs, loops %v, not %d, %d, %v", m.Size(), m.Count(), m.Loops(), n, pairs, loops)
	}
}

// reached are the numbers to which a path of one or more steps leads, from each.
func reached(truths [][]bool) [][]bool {
	all := make([][]bool, len(truths))
	for start := range truths {
		all[start] = make([]bool, len(truths))
		work := []int{start}
		for len(work) > 0 {
			i := work[0]
			work = work[1:]
			for k, related := range truths[i] {
				if related && !all[start][k] {
					all[start][k] = true
					work = append(work, k)
				}
			}
		}
	}
	return all
}

// built is a matrix of truths.
func built(t *testing.T, truths [][]bool) *matrix.Matrix {
	t.Helper()
	m := sized(t, len(truths))
	for i, row := range truths {
		for k, related := range row {
			if related {
				relate(t, m, [2]int{i, k})
			}
		}
	}
	return m
}

// closes has a relation's closure be what paths lead to: it has all that was there, a step behind a step is in it, no smaller
// one has both; to close it again changes nothing (25.3).
func closes(t *testing.T, truths [][]bool) {
	t.Helper()
	m, paths := built(t, truths), reached(truths)
	c := m.Copy()
	m.Close()
	is(t, m, paths)
	m.Close()
	is(t, m, paths)
	is(t, c, truths)
}

// none are truths of which none holds.
func none(n int) [][]bool {
	truths := make([][]bool, n)
	for i := range truths {
		truths[i] = make([]bool, n)
	}
	return truths
}

func TestSizes(t *testing.T) {
	for _, n := range []int{0, 1, 2, 63, 64, 65, 127, 128, 129, 1023, 1024} {
		is(t, sized(t, n), none(n))
	}
	for _, n := range []int{-1, -64, 1025, 1088, math.MinInt, math.MaxInt} {
		if m, errno := matrix.New(n); m != nil || errno != api.ErrArg {
			t.Errorf("New(%d): %v, %v", n, m, errno)
		}
	}
	if matrix.Most != 1024 {
		t.Errorf("%d", matrix.Most)
	}
}

func TestExample(t *testing.T) {
	m := sized(t, 3)
	relate(t, m, [2]int{0, 1}, [2]int{1, 2})
	if m.Count() != 2 || m.Has(0, 2) {
		t.Errorf("%d pairs", m.Count())
	}
	m.Close()
	if m.Count() != 3 || !m.Has(0, 1) || !m.Has(1, 2) || !m.Has(0, 2) {
		t.Errorf("%d pairs", m.Count())
	}
}

// TestEachPairAlone: one pair is one truth, at the edges of words, too; to set it again changes nothing.
func TestEachPairAlone(t *testing.T) {
	for _, n := range []int{1, 5, 63, 64, 65} {
		truths := none(n)
		for i := range n {
			for k := range n {
				m := sized(t, n)
				relate(t, m, [2]int{i, k}, [2]int{i, k})
				if !m.Has(i, k) || m.Count() != 1 || !slices.Equal(m.Row(i), []int{k}) || !slices.Equal(m.Column(k), []int{i}) {
					t.Fatalf("%d, %d of %d: %d pairs, row %v, column %v", i, k, n, m.Count(), m.Row(i), m.Column(k))
				}
				if loops := m.Loops(); i == k && !slices.Equal(loops, []int{i}) || i != k && len(loops) != 0 {
					t.Fatalf("%d, %d of %d: loops %v", i, k, n, loops)
				}
				if i == n-1 || k == n-1 || i == 0 || k == 0 {
					truths[i][k] = true
					is(t, m, truths)
					truths[i][k] = false
				}
			}
		}
	}
}

func TestWhatIsNoNumber(t *testing.T) {
	for _, n := range []int{0, 1, 3, 63, 64, 65, 1024} {
		m := sized(t, n)
		wrong := []int{-1, -64, n, n + 1, n + 63, n + 64, 64 * (n + 1), math.MinInt, math.MaxInt}
		for _, x := range wrong {
			for _, y := range append([]int{0, n - 1}, wrong...) {
				for _, p := range [][2]int{{x, y}, {y, x}} {
					if errno := m.Set(p[0], p[1]); errno != api.ErrArg || m.Has(p[0], p[1]) {
						t.Fatalf("%d: Set(%d, %d): %v, %t", n, p[0], p[1], errno, m.Has(p[0], p[1]))
					}
				}
			}
			if row, column := m.Row(x), m.Column(x); len(row) != 0 || len(column) != 0 {
				t.Fatalf("%d: Row(%d): %v, Column: %v", n, x, row, column)
			}
		}
		if m.Count() != 0 || m.Size() != n {
			t.Fatalf("%d: %d pairs, size %d", n, m.Count(), m.Size())
		}
	}
	// In a full one there is nothing beside its numbers, either.
	m := sized(t, 65)
	for i := range 65 {
		for k := range 65 {
			relate(t, m, [2]int{i, k})
		}
	}
	for _, x := range []int{-1, 65, 127, 128, math.MinInt, math.MaxInt} {
		if m.Has(x, 0) || m.Has(0, x) || m.Has(x, x) || len(m.Row(x)) != 0 || len(m.Column(x)) != 0 {
			t.Errorf("%d", x)
		}
	}
	if m.Count() != 65*65 || len(m.Row(64)) != 65 || len(m.Loops()) != 65 {
		t.Errorf("%d pairs", m.Count())
	}
}

// TestAllSmallRelations: each of up to four numbers.
func TestAllSmallRelations(t *testing.T) {
	for n := range 5 {
		for pattern := range 1 << (n * n) {
			truths := none(n)
			for at := range n * n {
				truths[at/max(n, 1)][at%max(n, 1)] = pattern>>at&1 == 1
			}
			closes(t, truths)
		}
	}
}

func TestDrawnRelations(t *testing.T) {
	r := rand.New(rand.NewSource(25))
	grown, full := 0, 0
	for range 400 {
		n := r.Intn(140)
		truths := none(n)
		for range r.Intn(2*n + 1) {
			truths[r.Intn(n)][r.Intn(n)] = true
		}
		is(t, built(t, truths), truths)
		closes(t, truths)
		paths := reached(truths)
		for i := range n {
			for k := range n {
				if paths[i][k] && !truths[i][k] {
					grown++
				}
				if i == k && paths[i][k] {
					full++
				}
			}
		}
	}
	if grown < 1000 || full < 100 {
		t.Errorf("%d pairs came by closing, %d of them loops", grown, full)
	}
}

// TestTheGreatest: a path through all numbers, whichever way it goes, and a ring.
func TestTheGreatest(t *testing.T) {
	n := matrix.Most
	up, down := sized(t, n), sized(t, n)
	for i := range n - 1 {
		relate(t, up, [2]int{i, i + 1})
		relate(t, down, [2]int{i + 1, i})
	}
	ring := up.Copy()
	relate(t, ring, [2]int{n - 1, 0})
	for _, m := range []*matrix.Matrix{up, down, ring} {
		m.Close()
	}
	if up.Count() != n*(n-1)/2 || !up.Has(0, n-1) || up.Has(n-1, 0) || len(up.Loops()) != 0 || len(up.Row(0)) != n-1 || len(up.Column(0)) != 0 {
		t.Errorf("up: %d pairs", up.Count())
	}
	if down.Count() != n*(n-1)/2 || down.Has(0, n-1) || !down.Has(n-1, 0) || len(down.Loops()) != 0 {
		t.Errorf("down: %d pairs", down.Count())
	}
	if ring.Count() != n*n || len(ring.Loops()) != n {
		t.Errorf("ring: %d pairs", ring.Count())
	}
}

// TestACopyIsItsOwn, and so is what it was copied from; two matrices share nothing.
func TestACopyIsItsOwn(t *testing.T) {
	for _, n := range []int{3, 64, 130} {
		m, other := sized(t, n), sized(t, n)
		relate(t, m, [2]int{0, 1}, [2]int{1, n - 1})
		c := m.Copy()
		if c == m {
			t.Fatal("it is the same one")
		}
		relate(t, m, [2]int{2, 2})
		relate(t, c, [2]int{n - 1, 0})
		m.Close()
		if m.Count() != 4 || m.Has(n-1, 0) || !m.Has(0, n-1) || c.Has(0, n-1) || c.Has(2, 2) || c.Count() != 3 || c.Size() != n {
			t.Errorf("%d: %v, %v, %v: %d pairs of %d", n, c.Row(0), c.Row(1), c.Row(n-1), c.Count(), m.Count())
		}
		if other.Count() != 0 {
			t.Errorf("%d: another one has %d pairs", n, other.Count())
		}
	}
}

// TestAnswersAreNew: what is done to a list that was answered, and to its spare room, is seen in no other one.
func TestAnswersAreNew(t *testing.T) {
	m := sized(t, 70)
	for i := range 70 {
		relate(t, m, [2]int{i, i}, [2]int{7, i}, [2]int{i, 7})
	}
	ask := func() [][]int { return [][]int{m.Row(7), m.Column(7), m.Loops()} }
	want := ask()
	for _, l := range ask() {
		l = l[:cap(l)]
		for i := range l {
			l[i] = -5
		}
	}
	for i, l := range ask() {
		if len(l) != 70 || !slices.Equal(l, want[i]) || !slices.IsSorted(l) {
			t.Errorf("%d: %v, not %v", i, l, want[i])
		}
	}
}

func TestNilAndZero(t *testing.T) {
	var m *matrix.Matrix
	for _, p := range [][2]int{{0, 0}, {0, 5}, {1023, 1024}, {math.MaxInt, math.MaxInt}} {
		if errno := m.Set(p[0], p[1]); errno != api.ErrState {
			t.Errorf("Set(%d, %d): %v", p[0], p[1], errno)
		}
	}
	for _, p := range [][2]int{{-1, 0}, {0, -1}, {-1, -1}, {math.MinInt, math.MaxInt}, {math.MaxInt, math.MinInt}} {
		if errno := m.Set(p[0], p[1]); errno != api.ErrArg {
			t.Errorf("Set(%d, %d): %v", p[0], p[1], errno)
		}
	}
	if m.Copy() != nil {
		t.Error("a nil one's copy")
	}
	zero := &matrix.Matrix{}
	if errno := zero.Set(0, 0); errno != api.ErrArg {
		t.Errorf("Set of nothing: %v", errno)
	}
	for _, x := range []*matrix.Matrix{m, zero, zero.Copy(), sized(t, 0)} {
		x.Close()
		for _, i := range []int{0, 1, -1, math.MaxInt, math.MinInt} {
			if x.Has(i, i) || x.Has(0, i) || len(x.Row(i)) != 0 || len(x.Column(i)) != 0 {
				t.Errorf("%d", i)
			}
		}
		if len(x.Loops()) != 0 || x.Count() != 0 || x.Size() != 0 {
			t.Errorf("%v, %d, %d", x.Loops(), x.Count(), x.Size())
		}
	}
}
