package crew_test

import (
	"math"
	"math/rand"
	"slices"
	"testing"

	"staithe/api"
	"staithe/crew"
)

// most is how many goroutines a crew may have, as the document says.
const most = 512

// one is what must be told of a goroutine; its state is a word, so that the package's numbers are not taken on trust.
type one struct {
	program, place int
	state          string
}

// number is a state's, as the document has it.
func number(t *testing.T, state string) int {
	t.Helper()
	at := slices.Index([]string{"runnable", "parked", "exited"}, state)
	if at < 0 {
		t.Fatalf("no state: %s", state)
	}
	return at
}

// pair is a crew beside a plain list of what it must hold.
type pair struct {
	c    *crew.Crew
	want []one
}

func (x *pair) in(state string) []int {
	var l []int
	for g, w := range x.want {
		if w.state == state {
			l = append(l, g)
		}
	}
	return l
}

// holds asks all that can be asked without changing anything.
func (x *pair) holds(t *testing.T, what string) {
	t.Helper()
	if n := x.c.Len(); n != len(x.want) {
		t.Fatalf("%s: Len: %d, not %d", what, n, len(x.want))
	}
	if l := x.c.Able(); !slices.Equal(l, x.in("runnable")) {
		t.Fatalf("%s: Able: %v of %v", what, l, x.want)
	}
	over := 1
	if len(x.in("runnable")) > 0 {
		over = 0
	} else if len(x.in("parked")) > 0 {
		over = 2
	}
	if n := x.c.Over(); n != over {
		t.Fatalf("%s: Over: %d of %v", what, n, x.want)
	}
	for g, w := range x.want {
		if n, ok := x.c.State(g); n != number(t, w.state) || !ok {
			t.Fatalf("%s: State(%d): %d, %t, not %v", what, g, n, ok, w)
		}
		if program, place, ok := x.c.At(g); program != w.program || place != w.place || !ok {
			t.Fatalf("%s: At(%d): %d, %d, %t, not %v", what, g, program, place, ok, w)
		}
	}
	for _, g := range x.nobody() {
		if n, ok := x.c.State(g); n != 0 || ok {
			t.Fatalf("%s: State(%d): %d, %t", what, g, n, ok)
		}
		if program, place, ok := x.c.At(g); program != 0 || place != 0 || ok {
			t.Fatalf("%s: At(%d): %d, %d, %t", what, g, program, place, ok)
		}
	}
}

// nobody are ids that nobody has.
func (x *pair) nobody() []int {
	return []int{math.MinInt, -most, -1, len(x.want), len(x.want) + 1, most, most + 1, 1 << 32, math.MaxInt}
}

func (x *pair) spawn(t *testing.T, program int) {
	t.Helper()
	id, want := len(x.want), api.OK
	switch {
	case program < 0:
		id, want = 0, api.ErrArg
	case id == most:
		id, want = 0, api.ErrFull
	default:
		x.want = append(x.want, one{program: program, state: "runnable"})
	}
	if g, errno := x.c.Spawn(program); g != id || errno != want {
		t.Fatalf("Spawn(%d): %d, %v, not %d, %v", program, g, errno, id, want)
	}
}

// call is one of the calls that change a goroutine: what it must be ahead and is behind, and how far it goes on.
type call struct {
	name     string
	do       func(*crew.Crew, int) api.Errno
	from, to string
	further  int
}

func calls() []call {
	return []call{
		{"Go", (*crew.Crew).Go, "runnable", "runnable", 1},
		{"Park", (*crew.Crew).Park, "runnable", "parked", 0},
		{"Wake", (*crew.Crew).Wake, "parked", "runnable", 1},
		{"Exit", (*crew.Crew).Exit, "runnable", "exited", 0},
	}
}

func (x *pair) change(t *testing.T, c call, g int) {
	t.Helper()
	want := api.OK
	switch {
	case g < 0 || g >= len(x.want):
		want = api.ErrNone
	case x.want[g].state != c.from:
		want = api.ErrState
	default:
		x.want[g].state = c.to
		x.want[g].place += c.further
	}
	if errno := c.do(x.c, g); errno != want {
		t.Fatalf("%s(%d): %v, not %v, of %v", c.name, g, errno, want, x.want)
	}
}

func of(t *testing.T, programs ...int) *pair {
	t.Helper()
	x := &pair{c: crew.New()}
	for _, program := range programs {
		x.spawn(t, program)
		x.holds(t, "Spawn")
	}
	return x
}

func TestNumbersOfStates(t *testing.T) {
	if crew.Runnable != 0 || crew.Parked != 1 || crew.Exited != 2 || crew.Most != 512 {
		t.Errorf("%d, %d, %d, %d", crew.Runnable, crew.Parked, crew.Exited, crew.Most)
	}
}

func TestNewHasNobody(t *testing.T) {
	if crew.New() == nil {
		t.Fatal("New is nil")
	}
	of(t).holds(t, "New")
}

func TestExample(t *testing.T) {
	c := crew.New()
	c.Spawn(0)
	c.Spawn(0)
	if e, f := c.Park(0), c.Exit(1); e != api.OK || f != api.OK {
		t.Errorf("Park, Exit: %v, %v", e, f)
	}
	if l := c.Able(); len(l) != 0 {
		t.Errorf("Able: %v", l)
	}
	if n := c.Over(); n != api.Deadlock {
		t.Errorf("Over: %d", n)
	}
}

func TestSpawnTakesAnyProgramFromZeroOn(t *testing.T) {
	x := of(t, 0, 7, api.MaxPrograms, 1000, math.MaxInt, 0)
	for _, program := range []int{-1, -2, math.MinInt} {
		x.spawn(t, program)
		x.holds(t, "a wrong Spawn")
	}
	x.spawn(t, 3)
	x.holds(t, "Spawn behind wrong ones")
}

func TestSpawnUpToMost(t *testing.T) {
	x := of(t)
	for i := range most {
		x.spawn(t, i%9)
	}
	x.holds(t, "at Most")
	for _, program := range []int{0, math.MaxInt, -1, math.MinInt} {
		x.spawn(t, program)
		x.holds(t, "Spawn at Most")
	}
	// Who exited counts still.
	for g := range most {
		x.change(t, calls()[3], g)
	}
	x.spawn(t, 1)
	x.holds(t, "all exited")
}

// TestEachCallInEachState has a goroutine between two others brought to each state, and then each call.
func TestEachCallInEachState(t *testing.T) {
	runs, parks, wakes, exits := calls()[0], calls()[1], calls()[2], calls()[3]
	for _, ahead := range [][]call{{}, {runs, runs}, {parks}, {runs, parks}, {parks, wakes}, {exits}, {runs, exits}, {parks, wakes, exits}} {
		for _, c := range calls() {
			x := of(t, 4, 5, 6)
			for _, a := range ahead {
				x.change(t, a, 1)
			}
			x.holds(t, "ahead of "+c.name)
			x.change(t, c, 1)
			x.holds(t, "behind "+c.name)
		}
	}
}

func TestCallsOfNobody(t *testing.T) {
	for _, x := range []*pair{of(t), of(t, 3), of(t, 1, 2, 3)} {
		for _, c := range calls() {
			for _, g := range x.nobody() {
				x.change(t, c, g)
				x.holds(t, c.name+" of nobody")
			}
		}
	}
}

// TestAllPathsOfSixCalls goes each way of spawns and of calls of two goroutines, of which the second may not be there.
func TestAllPathsOfSixCalls(t *testing.T) {
	const length, ways = 6, 9
	paths := 1
	for range length {
		paths *= ways
	}
	all := calls()
	for path := range paths {
		x := &pair{c: crew.New()}
		for i, rest := 0, path; i < length; i, rest = i+1, rest/ways {
			way := rest % ways
			if way == ways-1 {
				x.spawn(t, i)
			} else {
				x.change(t, all[way/2], way%2)
			}
		}
		x.holds(t, "a path")
	}
}

// TestExitedStaysExited has a great crew do what is drawn: each goroutine goes but the ways that its state leaves open.
func TestExitedStaysExited(t *testing.T) {
	r := rand.New(rand.NewSource(11))
	for range 20 {
		x := of(t)
		over := map[int]one{}
		for i := range 1500 {
			if r.Intn(12) == 0 {
				x.spawn(t, r.Intn(8))
			}
			c := calls()[r.Intn(4)]
			if c.name == "Exit" && r.Intn(3) > 0 {
				c = calls()[2]
			}
			x.change(t, c, r.Intn(len(x.want)+1))
			if i%100 == 0 {
				x.holds(t, "drawn")
			}
			for g, w := range over {
				if x.want[g] != w {
					t.Fatalf("%d was %v and is %v", g, w, x.want[g])
				}
			}
			for _, g := range x.in("exited") {
				over[g] = x.want[g]
			}
		}
		x.holds(t, "the end")
	}
}

func TestOver(t *testing.T) {
	runs, parks, wakes, exits := calls()[0], calls()[1], calls()[2], calls()[3]
	x := of(t, 0, 0, 0)
	for _, step := range []struct {
		c    call
		g    int
		over int
	}{
		{exits, 0, 0}, {parks, 1, 0}, {parks, 2, api.Deadlock}, {runs, 1, api.Deadlock}, {wakes, 1, 0},
		{exits, 1, api.Deadlock}, {wakes, 2, 0}, {exits, 2, api.AllExited}, {wakes, 2, api.AllExited},
	} {
		x.change(t, step.c, step.g)
		x.holds(t, step.c.name)
		if n := x.c.Over(); n != step.over {
			t.Errorf("%s(%d): Over: %d, not %d", step.c.name, step.g, n, step.over)
		}
	}
	x.spawn(t, 1)
	x.holds(t, "one more, behind the end")
}

func TestAbleIsNewMemory(t *testing.T) {
	x := of(t, 1, 2, 3, 4)
	a, b := x.c.Able(), x.c.Able()
	for _, l := range [][]int{a[:cap(a)], b[:cap(b)]} {
		for i := range l {
			l[i] = 9
		}
	}
	x.holds(t, "behind changes of lists")
	before := x.c.Able()
	kept := slices.Clone(before)
	x.change(t, calls()[1], 0)
	x.change(t, calls()[3], 2)
	x.spawn(t, 5)
	x.holds(t, "behind changes of the crew")
	if !slices.Equal(before, kept) {
		t.Errorf("a list changed with its crew: %v", before)
	}
}

func TestCrewsAreApart(t *testing.T) {
	a, b := of(t, 1, 2), of(t, 3, 4, 5)
	a.change(t, calls()[1], 0)
	b.change(t, calls()[3], 0)
	b.change(t, calls()[0], 1)
	a.spawn(t, 6)
	a.holds(t, "a")
	b.holds(t, "b")
}

func TestNilCrew(t *testing.T) {
	x := &pair{}
	for range 2 {
		for _, program := range []int{0, 1, math.MaxInt} {
			if g, errno := x.c.Spawn(program); g != 0 || errno != api.ErrState {
				t.Errorf("Spawn(%d): %d, %v", program, g, errno)
			}
		}
		for _, program := range []int{-1, math.MinInt} {
			if g, errno := x.c.Spawn(program); g != 0 || errno != api.ErrArg {
				t.Errorf("Spawn(%d): %d, %v", program, g, errno)
			}
		}
		for _, c := range calls() {
			for _, g := range append(x.nobody(), 0, 1) {
				if errno := c.do(x.c, g); errno != api.ErrNone {
					t.Errorf("%s(%d): %v", c.name, g, errno)
				}
			}
		}
		x.holds(t, "nil")
	}
}
