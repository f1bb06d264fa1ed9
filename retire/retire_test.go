package retire_test

import (
	"fmt"
	"math"
	"math/rand"
	"slices"
	"testing"

	"staithe/api"
	"staithe/clock"
	"staithe/retire"
)

var noTids = []int{math.MinInt, -256, -1, 256, 257, 1 << 20, math.MaxInt}

func of(l ...int) *clock.Clock {
	c, errno := clock.Of(l)
	if errno != api.OK {
		panic(errno)
	}
	return c
}

// lone is a clock with one number.
func lone(tid, n int) *clock.Clock {
	c := clock.New()
	if errno := c.Set(tid, n); errno != api.OK {
		panic(errno)
	}
	return c
}

func settled(t *testing.T, tid, want int, living, held []*clock.Clock) {
	t.Helper()
	if cut, ok := retire.Of(tid, living, held); cut != want || !ok {
		t.Errorf("Of(%d): %d, %t, not %d", tid, cut, ok, want)
	}
}

func unsettled(t *testing.T, tid int, living, held []*clock.Clock) {
	t.Helper()
	if cut, ok := retire.Of(tid, living, held); cut != 0 || ok {
		t.Errorf("Of(%d): %d, %t", tid, cut, ok)
	}
}

func TestExample(t *testing.T) {
	living := []*clock.Clock{of(1, 3), of(2, 3)}
	settled(t, 1, 3, living, []*clock.Clock{of(0, 2)})
	unsettled(t, 1, living, []*clock.Clock{of(0, 4)})
}

// TestWithoutLiving: nobody has a number then, whatever is held.
func TestWithoutLiving(t *testing.T) {
	for _, living := range [][]*clock.Clock{nil, {}} {
		for _, held := range [][]*clock.Clock{nil, {}, {nil}, {of()}, {of(1, 3)}} {
			for _, tid := range []int{0, 1, 255} {
				unsettled(t, tid, living, held)
			}
			if l := retire.All([]int{0, 1, 255}, living, held); len(l) != 0 {
				t.Errorf("All: %v", l)
			}
		}
	}
}

func TestOneOfTheLiving(t *testing.T) {
	for _, tid := range []int{0, 1, 254, 255} {
		for _, n := range []int{0, 1, 2, 1<<20 - 1, 1 << 20} {
			settled(t, tid, n, []*clock.Clock{lone(tid, n)}, nil)
			settled(t, tid, n, []*clock.Clock{lone(tid, n)}, []*clock.Clock{lone(tid, n), of()})
			if n < 1<<20 {
				unsettled(t, tid, []*clock.Clock{lone(tid, n)}, []*clock.Clock{lone(tid, n+1)})
			}
			if n > 0 {
				settled(t, tid, n, []*clock.Clock{lone(tid, n)}, []*clock.Clock{lone(tid, n-1)})
			}
		}
	}
}

// TestAllOfTheLivingCount: one that has another number is found wherever it stands, be it less or more; so is a held one.
func TestAllOfTheLivingCount(t *testing.T) {
	for at := range 4 {
		for _, n := range []int{0, 4, 6} {
			living := []*clock.Clock{of(9, 5), of(1, 5, 2), of(0, 5), of(3, 5)}
			settled(t, 1, 5, living, nil)
			living[at] = lone(1, n)
			unsettled(t, 1, living, nil)
		}
		held := []*clock.Clock{of(9, 5), of(9, 1), of(9), of()}
		settled(t, 1, 5, []*clock.Clock{of(0, 5)}, held)
		held[at] = of(0, 6)
		unsettled(t, 1, []*clock.Clock{of(0, 5)}, held)
	}
}

// TestNilClocks: they have noughts, and a nil one of the living is one of them.
func TestNilClocks(t *testing.T) {
	none := []*clock.Clock{nil}
	settled(t, 0, 0, none, none)
	settled(t, 255, 0, none, nil)
	unsettled(t, 1, none, []*clock.Clock{of(0, 1)})
	settled(t, 1, 0, none, []*clock.Clock{of(1)})
	unsettled(t, 1, []*clock.Clock{of(0, 3), nil}, nil)
	unsettled(t, 1, []*clock.Clock{nil, of(0, 3)}, nil)
	settled(t, 1, 3, []*clock.Clock{of(0, 3)}, none)
	settled(t, 0, 0, []*clock.Clock{of(0, 3), nil, of()}, none)
}

// TestNoTids: all have noughts there, and yet nothing is settled.
func TestNoTids(t *testing.T) {
	living := []*clock.Clock{of(1, 1), of(1, 1)}
	for _, tid := range noTids {
		unsettled(t, tid, living, nil)
		unsettled(t, tid, living, living)
		unsettled(t, tid, nil, nil)
		if n := retire.Greatest(tid, living); n != 0 {
			t.Errorf("Greatest(%d): %d", tid, n)
		}
	}
	if l := retire.All(noTids, living, nil); len(l) != 0 {
		t.Errorf("All: %v", l)
	}
}

// TestAll: in the order of the tids, each as often as it is named.
func TestAll(t *testing.T) {
	living := []*clock.Clock{of(1, 3, 7, 0, 2), of(2, 3, 7, 0, 2), of(1, 3, 7, 0, 2)}
	held := []*clock.Clock{of(9, 3, 6), of(0, 0, 8, 0, 1)}
	for _, c := range []struct {
		tids []int
		want []retire.Cut
	}{
		{nil, nil},
		{[]int{}, nil},
		{[]int{0}, nil},
		{[]int{2}, nil},
		{[]int{1}, []retire.Cut{{1, 3}}},
		{[]int{4, 0, 1, 2, 3}, []retire.Cut{{4, 2}, {1, 3}, {3, 0}}},
		{[]int{3, -1, 1, 256, 4}, []retire.Cut{{3, 0}, {1, 3}, {4, 2}}},
		{[]int{255, 1, 255, 1, 2, 1}, []retire.Cut{{255, 0}, {1, 3}, {255, 0}, {1, 3}, {1, 3}}},
	} {
		if l := retire.All(c.tids, living, held); !slices.Equal(l, c.want) {
			t.Errorf("All(%v): %v, not %v", c.tids, l, c.want)
		}
	}
}

func TestGreatest(t *testing.T) {
	for _, c := range []struct {
		tid, want int
		l         []*clock.Clock
	}{
		{0, 0, nil},
		{0, 0, []*clock.Clock{}},
		{0, 0, []*clock.Clock{nil, nil}},
		{0, 0, []*clock.Clock{of(0, 9)}},
		{0, 4, []*clock.Clock{of(4, 9)}},
		{1, 9, []*clock.Clock{of(4, 9), of(5, 8), nil}},
		{1, 9, []*clock.Clock{nil, of(5, 8), of(4, 9)}},
		{1, 9, []*clock.Clock{of(5, 8), of(4, 9), of(5, 8)}},
		{1, 8, []*clock.Clock{of(5, 8), of(9, 8)}},
		{255, 1 << 20, []*clock.Clock{lone(255, 1), lone(255, 1<<20), lone(254, 1)}},
	} {
		if n := retire.Greatest(c.tid, c.l); n != c.want {
			t.Errorf("Greatest(%d): %d, not %d", c.tid, n, c.want)
		}
	}
}

// TestNothingIsShared: what is handed in is as it was, and answers are new memory, spare room too.
func TestNothingIsShared(t *testing.T) {
	clocks := []*clock.Clock{of(1, 3), nil, of(2, 3), of(0, 9)}
	tids := []int{7, 1, 5, 6}
	living, held, asked := clocks[:1], clocks[1:3], tids[:2]
	show := func() string {
		s := fmt.Sprint(tids)
		for _, c := range clocks {
			s += fmt.Sprint(c == nil, c.List())
		}
		return s
	}
	before := show()
	first := retire.All(asked, living, held)
	retire.Of(1, living, held)
	retire.Greatest(1, clocks)
	kept := slices.Clone(first)
	second := retire.All(asked, living, held)
	second = second[:cap(second)]
	for i := range second {
		second[i] = retire.Cut{Tid: -7, At: -7}
	}
	asked[0] = 8
	if !slices.Equal(first, kept) {
		t.Errorf("%v, not %v", first, kept)
	}
	asked[0] = 7
	if show() != before {
		t.Errorf("%s, not %s", show(), before)
	}
}

// learns tells whether one of the living that joins another one of them, or a held one, then has another number.
func learns(tid int, living, held []*clock.Clock) bool {
	for _, c := range living {
		for _, o := range append(slices.Clone(living), held...) {
			more := c.Copy()
			more.Join(o)
			if more.Get(tid) != c.Get(tid) {
				return true
			}
		}
	}
	return false
}

// beside holds one question against what joining does.
func beside(t *testing.T, tid int, living, held []*clock.Clock) bool {
	t.Helper()
	cut, ok := retire.Of(tid, living, held)
	want := len(living) > 0 && !learns(tid, living, held)
	if ok != want || ok && cut != living[0].Get(tid) || !ok && cut != 0 {
		t.Errorf("Of(%d): %d, %t, not %t", tid, cut, ok, want)
	}
	return ok
}

// TestAllShortLists: up to three living and two held ones, of all numbers up to 3.
func TestAllShortLists(t *testing.T) {
	numbers := []*clock.Clock{nil, of(5), of(5, 1), of(5, 2), of(5, 3)}
	var lists func(n int) [][]*clock.Clock
	lists = func(n int) [][]*clock.Clock {
		if n == 0 {
			return [][]*clock.Clock{nil}
		}
		l := lists(n - 1)
		for _, x := range l[:len(l):len(l)] {
			for _, c := range numbers {
				if len(x) == n-1 {
					l = append(l, append(slices.Clone(x), c))
				}
			}
		}
		return l
	}
	if n := len(lists(3)); n != 1+5+25+125 {
		t.Fatal(n)
	}
	for _, living := range lists(3) {
		for _, held := range lists(2) {
			beside(t, 1, living, held)
		}
	}
}

// TestNobodyLearnsMore: of all that may be settled, whoever joins whom, one behind the other.
func TestNobodyLearnsMore(t *testing.T) {
	r := rand.New(rand.NewSource(20))
	settled, unsettled := 0, 0
	draw := func(n int) []*clock.Clock {
		var l []*clock.Clock
		for range n {
			l = append(l, of(r.Intn(2), r.Intn(3), 3+r.Intn(2)*r.Intn(2), 0, r.Intn(2)*r.Intn(2)))
		}
		return l
	}
	tids := []int{5, 4, 3, 2, 1, 0}
	for range 3000 {
		living, held := draw(1+r.Intn(3)), draw(r.Intn(4))
		var want []retire.Cut
		for _, tid := range tids {
			if beside(t, tid, living, held) {
				want = append(want, retire.Cut{Tid: tid, At: living[0].Get(tid)})
			}
		}
		l := retire.All(tids, living, held)
		if !slices.Equal(l, want) {
			t.Errorf("All: %v, not %v", l, want)
		}
		settled, unsettled = settled+len(l), unsettled+len(tids)-len(l)
		all := append(slices.Clone(living), held...)
		for range 20 {
			living[r.Intn(len(living))].Join(all[r.Intn(len(all))])
		}
		for _, c := range living {
			for _, x := range l {
				if c.Get(x.Tid) != x.At {
					t.Fatalf("%v: %d", x, c.Get(x.Tid))
				}
			}
		}
		if again := retire.All(tids, living, held); len(again) < len(l) {
			t.Fatalf("%v, then %v", l, again)
		}
	}
	if settled < 3000 || unsettled < 3000 {
		t.Errorf("settled: %d, not: %d", settled, unsettled)
	}
}

// TestGreatestIsThatOfAllJoined: the greatest number is what one has that joins all.
func TestGreatestIsThatOfAllJoined(t *testing.T) {
	r := rand.New(rand.NewSource(201))
	for range 500 {
		var l []*clock.Clock
		all := clock.New()
		for range r.Intn(5) {
			c := of(r.Intn(9), r.Intn(9), r.Intn(9))
			l = append(l, c)
			all.Join(c)
		}
		for tid := range 4 {
			if n := retire.Greatest(tid, l); n != all.Get(tid) {
				t.Fatalf("Greatest(%d): %d, not %d", tid, n, all.Get(tid))
			}
		}
	}
}
