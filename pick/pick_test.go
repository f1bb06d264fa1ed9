package pick_test

import (
	"math"
	"slices"
	"testing"

	"staithe/api"
	"staithe/pick"
)

func cursor(t *testing.T, plan, draws []int) *pick.Cursor {
	t.Helper()
	c, errno := pick.New(plan, draws)
	if c == nil || errno != api.OK {
		t.Fatalf("New(%v, %v): %v", plan, draws, errno)
	}
	return c
}

func left(t *testing.T, what string, c *pick.Cursor, entries, draws int) {
	t.Helper()
	if e, d := c.Left(); e != entries || d != draws {
		t.Errorf("%s: %d entries and %d draws are left, not %d and %d", what, e, d, entries, draws)
	}
}

func next(t *testing.T, what string, c *pick.Cursor, want int) {
	t.Helper()
	if n, ok := c.Next(); n != want || !ok {
		t.Errorf("%s: Next: %d, %t, not %d", what, n, ok, want)
	}
}

func ended(t *testing.T, what string, c *pick.Cursor) {
	t.Helper()
	if n, ok := c.Next(); n != 0 || ok {
		t.Errorf("%s: Next at the end: %d, %t", what, n, ok)
	}
}

func draw(t *testing.T, what string, c *pick.Cursor, n, want int) {
	t.Helper()
	if got, errno := c.Draw(n); got != want || errno != api.OK {
		t.Errorf("%s: Draw(%d): %d, %v, not %d", what, n, got, errno, want)
	}
}

// goes goes through all that a new cursor has.
func goes(t *testing.T, plan, draws []int) {
	t.Helper()
	c := cursor(t, plan, draws)
	for i, entry := range plan {
		left(t, "ahead of an entry", c, len(plan)-i, len(draws))
		next(t, "entry", c, entry)
	}
	ended(t, "behind the plan", c)
	for i, d := range draws {
		left(t, "ahead of a draw", c, 0, len(draws)-i)
		draw(t, "draw", c, 64, d%64)
	}
	draw(t, "behind the draws", c, 64, 0)
	left(t, "at the end", c, 0, 0)
	ended(t, "at the end", c)
}

func TestCursorGoesThroughPlanAndDraws(t *testing.T) {
	const c = api.Compact
	plans := [][]int{nil, {}, {c}, {0}, {1000}, {c, 0, 1000}, {3, c, c, 3}, slices.Repeat([]int{1000, c, 0, 7}, 50)}
	draws := [][]int{nil, {}, {0}, {1000}, {5, 7}, {63, 64, 65}, slices.Repeat([]int{1000, 0, 999, 1}, 16)}
	for _, p := range plans {
		for _, d := range draws {
			goes(t, p, d)
		}
	}
}

func TestNewOfWrongLists(t *testing.T) {
	for _, x := range []struct {
		what        string
		plan, draws []int
		want        api.Errno
	}{
		{"201 entries", make([]int, 201), nil, api.ErrLong},
		{"5000 entries", make([]int, 5000), []int{1}, api.ErrLong},
		{"65 draws", nil, make([]int, 65), api.ErrLong},
		{"5000 draws", []int{1}, make([]int, 5000), api.ErrLong},
		{"201 entries and 65 draws", make([]int, 201), make([]int, 65), api.ErrLong},
		{"an entry -2", []int{-2}, nil, api.ErrForm},
		{"the last entry -2", []int{0, 1000, -1, -2}, nil, api.ErrForm},
		{"an entry 1001", []int{1001}, nil, api.ErrForm},
		{"the 200th entry 1001", append(make([]int, 199), 1001), nil, api.ErrForm},
		{"an entry MinInt", []int{math.MinInt}, nil, api.ErrForm},
		{"an entry MaxInt", []int{math.MaxInt}, nil, api.ErrForm},
		{"a draw -1", nil, []int{-1}, api.ErrForm},
		{"the last draw -1", []int{1}, []int{0, 1000, -1}, api.ErrForm},
		{"a draw 1001", nil, []int{1001}, api.ErrForm},
		{"the 64th draw 1001", nil, append(make([]int, 63), 1001), api.ErrForm},
		{"a draw MinInt", nil, []int{math.MinInt}, api.ErrForm},
		{"a draw MaxInt", nil, []int{math.MaxInt}, api.ErrForm},
		{"an entry -2 and a draw -1", []int{-2}, []int{-1}, api.ErrForm},
		{"201 entries -2", slices.Repeat([]int{-2}, 201), nil, api.ErrLong},
		{"65 draws -1", nil, slices.Repeat([]int{-1}, 65), api.ErrLong},
		{"201 entries and a draw -1", make([]int, 201), []int{-1}, api.ErrLong},
		{"an entry -2 and 65 draws", []int{-2}, make([]int, 65), api.ErrLong},
	} {
		if c, errno := pick.New(x.plan, x.draws); c != nil || errno != x.want {
			t.Errorf("New of %s: %v, %v", x.what, c, errno)
		}
	}
}

func TestExample(t *testing.T) {
	c := cursor(t, nil, []int{5, 7})
	draw(t, "5", c, 3, 2)
	draw(t, "one", c, 1, 0)
	draw(t, "7", c, 4, 3)
	draw(t, "none left", c, 9, 0)
}

// Each draw is told modulo each n; one of one uses none.
func TestDrawOfEachNumber(t *testing.T) {
	for _, d := range []int{0, 1, 2, 62, 63, 64, 65, 127, 128, 999, 1000} {
		for n := 2; n <= 64; n++ {
			c := cursor(t, []int{9}, []int{d, 1})
			draw(t, "of one", c, 1, 0)
			left(t, "behind one of one", c, 1, 2)
			draw(t, "of some", c, n, d%n)
			left(t, "behind a draw", c, 1, 1)
			draw(t, "the next", c, n, 1)
			left(t, "behind all draws", c, 1, 0)
			draw(t, "none left", c, n, 0)
			draw(t, "none left, of one", c, 1, 0)
			left(t, "behind none", c, 1, 0)
		}
	}
}

// A wrong number draws nothing, be there draws or none, a cursor or none.
func TestDrawOfWrongNumbers(t *testing.T) {
	some, none := cursor(t, []int{4}, []int{5, 7}), cursor(t, nil, nil)
	var missing *pick.Cursor
	for _, n := range []int{math.MinInt, -64, -2, -1, 0, 65, 66, 128, 1000, math.MaxInt} {
		for _, c := range []*pick.Cursor{some, none, missing} {
			if got, errno := c.Draw(n); got != 0 || errno != api.ErrArg {
				t.Errorf("Draw(%d): %d, %v", n, got, errno)
			}
		}
	}
	left(t, "behind wrong draws", some, 1, 2)
	draw(t, "behind wrong draws", some, 64, 5)
}

func TestEntriesAndDrawsGoByThemselves(t *testing.T) {
	c := cursor(t, []int{1, 2, 3}, []int{4, 5, 6})
	next(t, "first", c, 1)
	draw(t, "first", c, 64, 4)
	next(t, "second", c, 2)
	left(t, "midst", c, 1, 2)
	draw(t, "second", c, 64, 5)
	draw(t, "third", c, 64, 6)
	draw(t, "none left", c, 64, 0)
	next(t, "third", c, 3)
	ended(t, "end", c)
	left(t, "end", c, 0, 0)
}

func TestCopiesGoOnByThemselves(t *testing.T) {
	a := cursor(t, []int{1, api.Compact, 3}, []int{4, 5, 6})
	next(t, "a", a, 1)
	draw(t, "a", a, 64, 4)
	b := a.Copy()
	if b == nil || b == a {
		t.Fatal("Copy")
	}
	next(t, "a", a, api.Compact)
	draw(t, "a", a, 64, 5)
	left(t, "a", a, 1, 1)
	left(t, "b", b, 2, 2)
	c := b.Copy()
	next(t, "b", b, api.Compact)
	next(t, "b", b, 3)
	ended(t, "b", b)
	draw(t, "b", b, 64, 5)
	draw(t, "b", b, 64, 6)
	draw(t, "b", b, 64, 0)
	left(t, "a", a, 1, 1)
	next(t, "a", a, 3)
	draw(t, "a", a, 64, 6)
	left(t, "c", c, 2, 2)
	next(t, "c", c, api.Compact)
	draw(t, "c", c, 64, 5)
	left(t, "c", c, 1, 1)
	d := b.Copy()
	left(t, "the copy of one at its end", d, 0, 0)
	ended(t, "the copy of one at its end", d)
}

// What is handed in is neither changed nor kept, and spare room isn't either.
func TestListsAreNotKept(t *testing.T) {
	room := []int{1, 2, 3, 4, 5, 6}
	c := cursor(t, room[:2], room[2:4])
	for i := range room {
		room[i] = 50 + i
	}
	next(t, "first", c, 1)
	draw(t, "first", c, 64, 3)
	d := c.Copy()
	next(t, "second", d, 2)
	draw(t, "second", d, 64, 4)
	ended(t, "end", d)
	if !slices.Equal(room, []int{50, 51, 52, 53, 54, 55}) {
		t.Errorf("changed: %v", room)
	}
}

func TestNilCursor(t *testing.T) {
	var c *pick.Cursor
	left(t, "nil", c, 0, 0)
	ended(t, "nil", c)
	for n := 1; n <= 64; n++ {
		draw(t, "nil", c, n, 0)
	}
	if c.Copy() != nil {
		t.Error("the copy of nil is none")
	}
	left(t, "nil still", c, 0, 0)
	ended(t, "nil still", c)
}

// A cursor that New did not make has nothing either.
func TestZeroCursor(t *testing.T) {
	var c pick.Cursor
	left(t, "zero", &c, 0, 0)
	ended(t, "zero", &c)
	draw(t, "zero", &c, 2, 0)
	left(t, "its copy", c.Copy(), 0, 0)
}

func TestOf(t *testing.T) {
	l := []int{10, 20, 30}
	for _, x := range []struct{ pick, want int }{
		{0, 10}, {1, 20}, {2, 30}, {3, 10}, {4, 20}, {7, 20}, {299, 30}, {1000, 20}, {math.MaxInt, l[math.MaxInt%3]},
	} {
		if n, errno := pick.Of(x.pick, l); n != x.want || errno != api.OK {
			t.Errorf("Of(%d): %d, %v", x.pick, n, errno)
		}
	}
	for _, p := range []int{0, 1, 1000, math.MaxInt} {
		if n, errno := pick.Of(p, []int{-5}); n != -5 || errno != api.OK {
			t.Errorf("Of(%d) of one: %d, %v", p, n, errno)
		}
	}
	if !slices.Equal(l, []int{10, 20, 30}) {
		t.Errorf("changed: %v", l)
	}
}

func TestOfWrongPicksAndNothing(t *testing.T) {
	for _, p := range []int{math.MinInt, -1000, -3, -2, api.Compact} {
		for _, l := range [][]int{nil, {}, {1}, {1, 2, 3}} {
			if n, errno := pick.Of(p, l); n != 0 || errno != api.ErrArg {
				t.Errorf("Of(%d, %v): %d, %v", p, l, n, errno)
			}
		}
	}
	room := []int{1, 2}
	for _, p := range []int{0, 1, 2, 1000, math.MaxInt} {
		for _, l := range [][]int{nil, {}, room[:0]} {
			if n, errno := pick.Of(p, l); n != 0 || errno != api.ErrNone {
				t.Errorf("Of(%d, %v): %d, %v", p, l, n, errno)
			}
		}
	}
}

// Each pick chooses one that is there; the picks below how many there are choose all.
func TestEachIsChosen(t *testing.T) {
	for size := 1; size <= 70; size++ {
		l := make([]int, size)
		for i := range l {
			l[i] = 100 + i*i
		}
		var chosen []int
		for p := range 1001 {
			n, errno := pick.Of(p, l)
			if errno != api.OK || !slices.Contains(l, n) {
				t.Fatalf("Of(%d) of %d: %d, %v", p, size, n, errno)
			}
			if p < size {
				chosen = append(chosen, n)
			}
		}
		slices.Sort(chosen)
		if !slices.Equal(chosen, l) {
			t.Fatalf("of %d are chosen %v", size, chosen)
		}
	}
}

func TestEachIsDrawn(t *testing.T) {
	for n := 1; n <= 64; n++ {
		for d := range n {
			c := cursor(t, nil, []int{d})
			draw(t, "below n", c, n, d)
		}
		for _, d := range []int{n, 500, 1000} {
			c := cursor(t, nil, []int{d})
			if got, errno := c.Draw(n); got < 0 || got >= n || errno != api.OK {
				t.Errorf("Draw(%d) by %d: %d, %v", n, d, got, errno)
			}
		}
	}
}

func TestNth(t *testing.T) {
	wrong := []int{math.MinInt, -64, -2, -1, 12, 1000, math.MaxInt}
	for bits := range 1 << 11 {
		l := make([]bool, 11)
		var places []int
		for i := range l {
			if bits>>i&1 == 1 {
				l[i] = true
				places = append(places, i)
			}
		}
		before := slices.Clone(l)
		for n, want := range places {
			if at, ok := pick.Nth(l, n); at != want || !ok {
				t.Fatalf("Nth(%v, %d): %d, %t", l, n, at, ok)
			}
		}
		for _, n := range append(wrong, len(places), len(places)+1) {
			if at, ok := pick.Nth(l, n); at != 0 || ok {
				t.Fatalf("Nth(%v, %d): %d, %t", l, n, at, ok)
			}
		}
		if !slices.Equal(l, before) {
			t.Fatalf("changed: %v", l)
		}
	}
	for _, n := range append(wrong, 0, 1) {
		for _, l := range [][]bool{nil, {}, make([]bool, 5)} {
			if at, ok := pick.Nth(l, n); at != 0 || ok {
				t.Errorf("Nth(%v, %d): %d, %t", l, n, at, ok)
			}
		}
	}
}

// A cursor's like, in the same state, tells the same.
func TestCallsTellTheSame(t *testing.T) {
	plan, draws := []int{3, api.Compact, 1000}, []int{5, 7, 1000}
	a, b := cursor(t, plan, draws), cursor(t, plan, draws)
	for step := range 40 {
		n := step % 70
		x, e := a.Draw(n)
		if y, f := b.Draw(n); x != y || e != f {
			t.Errorf("Draw(%d): %d, %v, or %d, %v", n, x, e, y, f)
		}
		p, ok := a.Next()
		if q, also := b.Next(); p != q || ok != also {
			t.Errorf("Next: %d, %t, or %d, %t", p, ok, q, also)
		}
	}
}
