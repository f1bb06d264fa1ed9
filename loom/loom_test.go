package loom_test

import (
	"fmt"
	"math"
	"math/rand"
	"slices"
	"testing"

	"staithe/api"
	"staithe/loom"
	"staithe/sheet"
)

func spawn(program int) api.Op    { return api.Op{Kind: 1, A: program} }
func makes(name, size int) api.Op { return api.Op{Kind: 2, A: name, B: size} }
func send(name, v int) api.Op     { return api.Op{Kind: 3, A: name, B: v} }
func recv(name int) api.Op        { return api.Op{Kind: 4, A: name} }
func closes(name int) api.Op      { return api.Op{Kind: 5, A: name} }
func read(cell int) api.Op        { return api.Op{Kind: 7, A: cell} }
func write(cell int) api.Op       { return api.Op{Kind: 8, A: cell} }
func exit() api.Op                { return api.Op{Kind: 9} }

func selects(cases ...api.Case) api.Op { return api.Op{Kind: 6, Cases: cases} }
func orElse(cases ...api.Case) api.Op  { return api.Op{Kind: 6, Cases: cases, Default: true} }
func in(name int) api.Case             { return api.Case{Chan: name} }
func out(name, v int) api.Case         { return api.Case{Send: true, Chan: name, Value: v} }

func script(plan, draws []int, programs ...[]api.Op) api.Script {
	return api.Script{T: 1, M: 1, Programs: programs, Plan: plan, Draws: draws}
}

// event is one whose fields are told in the order of api's, with the letters S for Send, K for OK.
func event(kind, g, channel, at, value, mate int, flags string) api.Event {
	return api.Event{Kind: kind, G: g, Chan: channel, Case: at, Value: value, Mate: mate, Send: flags == "S" || flags == "SK", OK: flags == "K" || flags == "SK"}
}

func fresh(t *testing.T, s api.Script) *loom.Loom {
	t.Helper()
	l, errno := loom.New(s)
	if l == nil || errno != api.OK {
		t.Fatalf("New: %v of %+v", errno, s)
	}
	return l
}

func sameOp(a, b api.Op) bool {
	return a.Kind == b.Kind && a.A == b.A && a.B == b.B && a.Default == b.Default && slices.Equal(a.Cases, b.Cases)
}

// pair is a loom beside the world that its run must be.
type pair struct {
	l     *loom.Loom
	w     *world
	trace []api.Event
}

// holds asks all that can be asked without changing anything.
func (x *pair) holds(t *testing.T) {
	t.Helper()
	if v := x.l.Verdict(); v != x.w.verdict() {
		t.Fatalf("Verdict: %d, not %d, behind %v", v, x.w.verdict(), x.trace)
	}
	g, o, ok := x.l.Next()
	if g2, o2, ok2 := x.w.next(); g != g2 || ok != ok2 || !sameOp(o, o2) {
		t.Fatalf("Next: %d, %v, %t, not %d, %v, %t, behind %v", g, o, ok, g2, o2, ok2, x.trace)
	}
	if x.l.Len() != len(x.w.people) {
		t.Fatalf("Len: %d, not %d, behind %v", x.l.Len(), len(x.w.people), x.trace)
	}
	states := []string{"runnable", "parked", "exited"}
	for g, p := range x.w.people {
		if n, ok := x.l.State(g); n != slices.Index(states, p.state) || !ok {
			t.Fatalf("State(%d): %d, %t, not %s, behind %v", g, n, ok, p.state, x.trace)
		}
	}
	for _, g := range []int{math.MinInt, -1, len(x.w.people), math.MaxInt} {
		if n, ok := x.l.State(g); n != 0 || ok {
			t.Fatalf("State(%d): %d, %t, of nobody", g, n, ok)
		}
	}
	if l := x.l.Trace(); !slices.Equal(l, x.trace) {
		t.Fatalf("Trace: %v, not %v", l, x.trace)
	}
}

// walk takes all steps of a script: its trace.
func walk(t *testing.T, s api.Script) []api.Event {
	t.Helper()
	x := &pair{l: fresh(t, s), w: worldOf(s)}
	x.holds(t)
	steps := 0
	for x.w.verdict() == 0 {
		want := x.w.step()
		if got := x.l.Step(); !slices.Equal(got, want) {
			t.Fatalf("Step: %v, not %v, behind %v, of %+v", got, want, x.trace, s)
		}
		x.trace = append(x.trace, want...)
		x.holds(t)
		steps++
	}
	if steps > len(s.Plan) {
		t.Fatalf("%d steps of %d entries", steps, len(s.Plan))
	}
	for range 2 {
		if got := x.l.Step(); len(got) != 0 {
			t.Fatalf("Step behind the end: %v", got)
		}
		x.holds(t)
	}
	if l, v := loom.Run(s); !slices.Equal(l, x.trace) || v != x.w.verdict() {
		t.Fatalf("Run: %v, %d, not %v, %d", l, v, x.trace, x.w.verdict())
	}
	return x.trace
}

// runs has a script's run be told, and told in full.
func runs(t *testing.T, s api.Script, verdict int, want ...api.Event) {
	t.Helper()
	walk(t, s)
	got, v := loom.Run(s)
	if v != verdict {
		t.Errorf("verdict %d, not %d: %v", v, verdict, got)
	}
	for i := range max(len(got), len(want)) {
		if i >= len(got) || i >= len(want) || got[i] != want[i] {
			t.Errorf("at %d: %v, not %v", i, got, want)
			return
		}
	}
}

func TestExample(t *testing.T) {
	s := script([]int{0, 0, 0, 0}, nil, []api.Op{makes(0, 0), spawn(1), recv(0)}, []api.Op{send(0, 5)})
	runs(t, s, api.Spent,
		event(2, 0, 0, -1, 0, -1, ""), event(1, 0, -1, -1, 1, 1, ""), event(6, 0, 0, -1, 0, -1, ""),
		event(3, 1, 0, -1, 5, 0, "S"), event(7, 0, 0, -1, 5, 1, "K"))
}

func TestWhatTouchesNobodyElse(t *testing.T) {
	s := script([]int{0, 0, 0, 1, 0, 7}, nil, []api.Op{makes(7, 4), read(7), write(3), spawn(2), exit(), read(0)}, nil, []api.Op{makes(7, 1)})
	runs(t, s, api.Spent,
		event(2, 0, 0, -1, 4, -1, ""), event(9, 0, -1, -1, 7, -1, ""), event(10, 0, -1, -1, 3, -1, ""),
		event(1, 0, -1, -1, 2, 1, ""), event(11, 0, -1, -1, -1, -1, ""), event(2, 1, 1, -1, 1, -1, ""))
}

func TestASendParksAndIsServed(t *testing.T) {
	s := script([]int{0, 0, 1, 0}, nil, []api.Op{makes(3, 0), spawn(1), recv(3)}, []api.Op{send(3, 99)})
	runs(t, s, api.Spent,
		event(2, 0, 0, -1, 0, -1, ""), event(1, 0, -1, -1, 1, 1, ""), event(6, 1, 0, -1, 99, -1, "S"),
		event(4, 0, 0, -1, 99, 1, "K"), event(7, 1, 0, -1, 99, 0, "SK"))
}

func TestABufferIsBetween(t *testing.T) {
	s := script([]int{0, 0, 1, 1, 0, 0, 0, 0}, nil, []api.Op{makes(0, 1), spawn(1), recv(0), recv(0), recv(0)}, []api.Op{send(0, 1), send(0, 2)})
	runs(t, s, api.Deadlock,
		event(2, 0, 0, -1, 1, -1, ""), event(1, 0, -1, -1, 1, 1, ""),
		event(3, 1, 0, -1, 1, -1, "S"), event(6, 1, 0, -1, 2, -1, "S"),
		event(4, 0, 0, -1, 1, 1, "K"), event(7, 1, 0, -1, 2, 0, "SK"),
		event(4, 0, 0, -1, 2, -1, "K"), event(6, 0, 0, -1, 0, -1, ""), event(11, 1, -1, -1, -1, -1, ""))
}

func TestNilChannels(t *testing.T) {
	runs(t, script([]int{0, 0}, nil, []api.Op{send(2, 8)}), api.Deadlock, event(6, 0, -1, -1, 8, -1, "S"))
	runs(t, script([]int{0, 0}, nil, []api.Op{recv(2)}), api.Deadlock, event(6, 0, -1, -1, 0, -1, ""))
	runs(t, script([]int{0, 0}, nil, []api.Op{selects(in(0), out(1, 7))}), api.Deadlock, event(6, 0, -1, 2, 0, -1, ""))
	runs(t, script([]int{0, 0}, nil, []api.Op{closes(2)}), api.Panicked, event(12, 0, -1, -1, -1, -1, ""))
}

func TestClosing(t *testing.T) {
	// What is in the buffer is received still; then nothing is, and who sends or closes panics.
	for _, last := range []api.Op{send(0, 1), closes(0), selects(out(0, 1)), orElse(out(0, 1), in(5))} {
		s := script([]int{0, 0, 0, 0, 0, 0, 0, 0}, nil, []api.Op{makes(0, 2), send(0, 3), closes(0), recv(0), recv(0), selects(in(1), in(0)), last})
		runs(t, s, api.Panicked,
			event(2, 0, 0, -1, 2, -1, ""), event(3, 0, 0, -1, 3, -1, "S"), event(5, 0, 0, -1, -1, -1, ""),
			event(4, 0, 0, -1, 3, -1, "K"), event(4, 0, 0, -1, 0, -1, ""), event(4, 0, 0, 1, 0, -1, ""),
			event(12, 0, -1, -1, -1, -1, ""))
	}
}

func TestClosingWakesReceiversInTheirOrder(t *testing.T) {
	s := script([]int{0, 0, 0, 0, 0, 2, 2, 1, 0}, nil,
		[]api.Op{makes(0, 0), makes(1, 0), spawn(1), spawn(2), spawn(1), closes(0)}, []api.Op{recv(0)}, []api.Op{selects(in(1), in(0), in(0))})
	runs(t, s, api.Spent,
		event(2, 0, 0, -1, 0, -1, ""), event(2, 0, 1, -1, 0, -1, ""),
		event(1, 0, -1, -1, 1, 1, ""), event(1, 0, -1, -1, 2, 2, ""), event(1, 0, -1, -1, 1, 3, ""),
		event(6, 2, -1, 3, 0, -1, ""), event(6, 3, 0, -1, 0, -1, ""), event(6, 1, 0, -1, 0, -1, ""),
		event(5, 0, 0, -1, -1, -1, ""),
		event(7, 2, 0, 1, 0, 0, ""), event(7, 3, 0, -1, 0, 0, ""), event(7, 1, 0, -1, 0, 0, ""))
}

func TestClosingHasTheFirstSenderPanic(t *testing.T) {
	s := script([]int{0, 0, 0, 2, 1, 0, 0}, nil, []api.Op{makes(0, 0), spawn(1), spawn(2), closes(0)}, []api.Op{send(0, 6)}, []api.Op{selects(in(4), out(0, 7))})
	runs(t, s, api.Panicked,
		event(2, 0, 0, -1, 0, -1, ""), event(1, 0, -1, -1, 1, 1, ""), event(1, 0, -1, -1, 2, 2, ""),
		event(6, 2, -1, 2, 0, -1, ""), event(6, 1, 0, -1, 6, -1, "S"),
		event(5, 0, 0, -1, -1, -1, ""), event(12, 2, -1, -1, -1, -1, ""))
}

func TestClosingServesWhoWaitsToSendAndToReceive(t *testing.T) {
	s := script([]int{0, 0, 1, 0, 0, 0}, nil, []api.Op{makes(0, 0), spawn(1), closes(0)}, []api.Op{selects(out(0, 7), in(0))})
	runs(t, s, api.AllExited,
		event(2, 0, 0, -1, 0, -1, ""), event(1, 0, -1, -1, 1, 1, ""), event(6, 1, -1, 2, 0, -1, ""),
		event(5, 0, 0, -1, -1, -1, ""), event(7, 1, 0, 1, 0, 0, ""),
		event(11, 0, -1, -1, -1, -1, ""), event(11, 1, -1, -1, -1, -1, ""))
}

func TestSelects(t *testing.T) {
	three := selects(in(0), in(5), out(1, 3))
	ahead := []api.Op{makes(0, 1), makes(1, 1), send(0, 9)}
	made := []api.Event{event(2, 0, 0, -1, 1, -1, ""), event(2, 0, 1, -1, 1, -1, ""), event(3, 0, 0, -1, 9, -1, "S")}
	first, third := event(4, 0, 0, 0, 9, -1, "K"), event(3, 0, 1, 2, 3, -1, "S")
	for draw, want := range []api.Event{first, third, first, third} {
		runs(t, script([]int{0, 0, 0, 0}, []int{draw}, append(slices.Clone(ahead), three)), api.Spent, append(slices.Clone(made), want)...)
	}
	// Without a draw left the first ready one is taken.
	runs(t, script([]int{0, 0, 0, 0}, nil, append(slices.Clone(ahead), three)), api.Spent, append(slices.Clone(made), first)...)
	// One ready case alone takes no draw.
	runs(t, script([]int{0, 0, 0, 0, 0}, []int{1}, append(slices.Clone(ahead), selects(in(5), in(0)), selects(out(0, 4), out(1, 5)))), api.Spent,
		append(slices.Clone(made), event(4, 0, 0, 1, 9, -1, "K"), event(3, 0, 1, 1, 5, -1, "S"))...)
	// None is ready: by its default, or waiting for all of them.
	runs(t, script([]int{0, 0}, nil, []api.Op{orElse(in(0)), orElse()}), api.Spent, event(8, 0, -1, -1, -1, -1, ""), event(8, 0, -1, -1, -1, -1, ""))
	runs(t, script([]int{0, 0}, nil, []api.Op{selects()}), api.Deadlock, event(6, 0, -1, 0, 0, -1, ""))
}

func TestWhoIsServedWaitsNowhereElse(t *testing.T) {
	// Goroutine 1 waits at two channels; served at one, it is not there for who comes to the other.
	s := script([]int{0, 0, 0, 1, 0, 0, 0}, nil, []api.Op{makes(0, 0), makes(1, 0), spawn(1), send(1, 4), orElse(out(0, 5)), orElse(in(0))}, []api.Op{selects(in(0), out(0, 8), in(1))})
	runs(t, s, api.Spent,
		event(2, 0, 0, -1, 0, -1, ""), event(2, 0, 1, -1, 0, -1, ""), event(1, 0, -1, -1, 1, 1, ""), event(6, 1, -1, 3, 0, -1, ""),
		event(3, 0, 1, -1, 4, 1, "S"), event(7, 1, 1, 2, 4, 0, "K"),
		event(8, 0, -1, -1, -1, -1, ""), event(8, 0, -1, -1, -1, -1, ""))
}

func TestANameIsTheLastChannelMadeByIt(t *testing.T) {
	// Goroutine 1 waits at the first channel 0 and at 1; the name 0 is another one then. Served at 1 it has left the old one, too.
	s := script([]int{0, 0, 0, 1, 0, 0, 0}, nil, []api.Op{makes(0, 0), makes(1, 0), spawn(1), makes(0, 0), orElse(out(0, 5)), send(1, 6)}, []api.Op{selects(in(0), in(1))})
	runs(t, s, api.Spent,
		event(2, 0, 0, -1, 0, -1, ""), event(2, 0, 1, -1, 0, -1, ""), event(1, 0, -1, -1, 1, 1, ""), event(6, 1, -1, 2, 0, -1, ""),
		event(2, 0, 2, -1, 0, -1, ""), event(8, 0, -1, -1, -1, -1, ""),
		event(3, 0, 1, -1, 6, 1, "S"), event(7, 1, 1, 1, 6, 0, "K"))
}

func TestEnds(t *testing.T) {
	two := [][]api.Op{{spawn(1)}, {recv(0)}}
	for _, c := range []struct {
		plan    []int
		verdict int
	}{
		{nil, api.Spent}, {[]int{0}, api.Spent}, {[]int{0, 0}, api.Spent}, {[]int{0, 0, 0}, api.Deadlock}, {[]int{0, 1, 0}, api.Deadlock},
		{[]int{0, 0, 0, 5, -1}, api.Deadlock}, {[]int{-1}, api.Spent}, {[]int{0, -1}, api.Spent},
	} {
		s := script(c.plan, nil, two...)
		walk(t, s)
		if l, v := loom.Run(s); v != c.verdict {
			t.Errorf("plan %v: %d, not %d: %v", c.plan, v, c.verdict, l)
		}
	}
	exits := event(11, 0, -1, -1, -1, -1, "")
	runs(t, script([]int{0}, nil, nil), api.AllExited, exits)
	runs(t, script([]int{1000, -1}, nil, nil), api.AllExited, exits)
	runs(t, script([]int{-1, 0}, nil, []api.Op{exit(), read(0)}), api.AllExited, event(13, -1, -1, -1, -1, -1, ""), exits)
}

func TestPicksAreOfThoseWhoMayRun(t *testing.T) {
	// Behind goroutine 1's exit the picks 0 and 1 are of 0 and 2; 1000 is even.
	s := script([]int{0, 0, 1, 1, 1000, 3}, nil, []api.Op{spawn(1), spawn(2), read(4)}, nil, []api.Op{read(5), read(6)})
	runs(t, s, api.Spent,
		event(1, 0, -1, -1, 1, 1, ""), event(1, 0, -1, -1, 2, 2, ""), event(11, 1, -1, -1, -1, -1, ""),
		event(9, 2, -1, -1, 5, -1, ""), event(9, 0, -1, -1, 4, -1, ""), event(9, 2, -1, -1, 6, -1, ""))
}

// wrong are scripts that are not right, with New's errors.
func wrong() map[string]struct {
	s     api.Script
	errno api.Errno
} {
	type row = struct {
		s     api.Script
		errno api.Errno
	}
	with := func(change func(s *api.Script)) api.Script {
		s := script([]int{0}, []int{0}, []api.Op{exit()})
		change(&s)
		return s
	}
	return map[string]row{
		"nothing":        {api.Script{}, api.ErrArg},
		"T":              {with(func(s *api.Script) { s.T = 257 }), api.ErrArg},
		"M":              {with(func(s *api.Script) { s.M = 0 }), api.ErrArg},
		"no program":     {with(func(s *api.Script) { s.Programs = nil }), api.ErrForm},
		"nine programs":  {with(func(s *api.Script) { s.Programs = make([][]api.Op, 9) }), api.ErrLong},
		"a long program": {with(func(s *api.Script) { s.Programs[0] = slices.Repeat([]api.Op{exit()}, 33) }), api.ErrLong},
		"a long plan":    {with(func(s *api.Script) { s.Plan = make([]int, 201) }), api.ErrLong},
		"long draws":     {with(func(s *api.Script) { s.Draws = make([]int, 65) }), api.ErrLong},
		"an entry":       {with(func(s *api.Script) { s.Plan[0] = -2 }), api.ErrForm},
		"a draw":         {with(func(s *api.Script) { s.Draws[0] = -1 }), api.ErrForm},
		"a name":         {with(func(s *api.Script) { s.Programs[0][0] = send(8, 1) }), api.ErrForm},
		"a child":        {with(func(s *api.Script) { s.Programs[0][0] = spawn(1) }), api.ErrForm},
		"no operation":   {with(func(s *api.Script) { s.Programs[0][0] = api.Op{} }), api.ErrForm},
		"five cases":     {with(func(s *api.Script) { s.Programs[0][0] = selects(make([]api.Case, 5)...) }), api.ErrForm},
	}
}

func TestScriptsThatAreNotRight(t *testing.T) {
	for name, c := range wrong() {
		if l, errno := loom.New(c.s); l != nil || errno != c.errno || errno != sheet.Check(c.s) {
			t.Errorf("%s: New: %v, %v, not %v", name, l, errno, c.errno)
		}
		if l, v := loom.Run(c.s); len(l) != 0 || v != api.Malformed {
			t.Errorf("%s: Run: %v, %d", name, l, v)
		}
	}
}

func TestNilLoom(t *testing.T) {
	var l *loom.Loom
	for range 2 {
		if g, o, ok := l.Next(); g != 0 || !sameOp(o, api.Op{}) || ok {
			t.Errorf("Next: %d, %v, %t", g, o, ok)
		}
		if e := l.Step(); len(e) != 0 {
			t.Errorf("Step: %v", e)
		}
		if v := l.Verdict(); v != api.Malformed {
			t.Errorf("Verdict: %d", v)
		}
		if e := l.Trace(); len(e) != 0 || l.Len() != 0 {
			t.Errorf("Trace: %v, Len: %d", e, l.Len())
		}
		for _, g := range []int{-1, 0, 1} {
			if n, ok := l.State(g); n != 0 || ok {
				t.Errorf("State(%d): %d, %t", g, n, ok)
			}
		}
	}
}

// rich is a script with all lists that a script may have.
func rich() api.Script {
	return script([]int{0, 0, 0, 0, 0}, []int{1, 0}, []api.Op{makes(0, 1), send(0, 9), selects(in(0), in(0)), spawn(1)}, []api.Op{selects(in(1))})
}

func TestNothingOfTheScriptIsKept(t *testing.T) {
	s, want := rich(), walk(t, rich())
	l := fresh(t, s)
	for _, program := range s.Programs {
		for i, o := range program {
			for k := range o.Cases {
				o.Cases[k] = out(7, 7)
			}
			program[i] = exit()
		}
	}
	s.Programs[0], s.Programs[1] = nil, nil
	for i := range s.Plan {
		s.Plan[i] = -1
	}
	for i := range s.Draws {
		s.Draws[i] = 0
	}
	for l.Verdict() == 0 {
		l.Step()
	}
	if got := l.Trace(); !slices.Equal(got, want) {
		t.Errorf("%v, not %v", got, want)
	}
	// Nor is what is handed in changed.
	s, kept := rich(), rich()
	loom.Run(s)
	a, _ := sheet.Encode(s)
	if b, _ := sheet.Encode(kept); a != b {
		t.Errorf("%+v, not %+v", s, kept)
	}
}

func TestAnswersAreNewMemory(t *testing.T) {
	want := walk(t, rich())
	l := fresh(t, rich())
	blot := func(events []api.Event) {
		events = events[:cap(events)]
		for i := range events {
			events[i] = event(12, 9, 9, 9, 9, 9, "SK")
		}
	}
	for l.Verdict() == 0 {
		_, o, _ := l.Next()
		for i := range o.Cases[:cap(o.Cases)] {
			o.Cases[:cap(o.Cases)][i] = out(7, 7)
		}
		blot(l.Trace())
		kept := l.Trace()
		copied := slices.Clone(kept)
		blot(l.Step())
		if !slices.Equal(kept, copied) {
			t.Errorf("a trace changed with its loom: %v", kept)
		}
	}
	if got := l.Trace(); !slices.Equal(got, want) {
		t.Errorf("%v, not %v", got, want)
	}
}

func TestNextChangesNothing(t *testing.T) {
	l := fresh(t, rich())
	for l.Verdict() == 0 {
		for range 3 {
			l.Next()
			l.Verdict()
		}
		l.Step()
	}
	if got, want := l.Trace(), walk(t, rich()); !slices.Equal(got, want) {
		t.Errorf("%v, not %v", got, want)
	}
}

func TestLoomsAreApart(t *testing.T) {
	want := walk(t, rich())
	a, b := fresh(t, rich()), fresh(t, rich())
	for a.Verdict() == 0 {
		a.Step()
	}
	if len(b.Trace()) != 0 || b.Verdict() != 0 {
		t.Errorf("the other one: %v, %d", b.Trace(), b.Verdict())
	}
	for b.Verdict() == 0 {
		b.Step()
	}
	if !slices.Equal(a.Trace(), want) || !slices.Equal(b.Trace(), want) {
		t.Errorf("%v, %v, not %v", a.Trace(), b.Trace(), want)
	}
}

// TestAllShortRuns has three goroutines at one channel do each of these operations, in each order of turns.
func TestAllShortRuns(t *testing.T) {
	ways := []api.Op{
		send(0, 5), recv(0), closes(0), selects(in(0), out(0, 6)), selects(out(0, 7), in(1), in(0)), orElse(in(0), out(0, 8)), selects(in(0), out(1, 9)),
	}
	const turns, longest = 3, 5
	plans := 1
	for range longest {
		plans *= turns
	}
	for _, size := range []int{0, 1} {
		for i := range len(ways) * len(ways) * len(ways) {
			a, b, c := ways[i%len(ways)], ways[i/len(ways)%len(ways)], ways[i/len(ways)/len(ways)]
			programs := [][]api.Op{{makes(0, size), spawn(1), spawn(2), a, b}, {b, c}, {c, a}}
			for path := i % 3; path < plans; path += 3 { // a third of them, in turn
				plan := []int{0, 0, 0}
				for k, rest := 0, path; k < longest; k, rest = k+1, rest/turns {
					plan = append(plan, rest%turns)
				}
				walk(t, script(plan, []int{path % 2, 1}, programs...))
			}
		}
	}
}

// drawnOp is an operation of one of so many programs; few names, so that goroutines meet.
func drawnOp(r *rand.Rand, programs int) api.Op {
	name, v := r.Intn(3), r.Intn(100)
	switch r.Intn(16) {
	case 0:
		return spawn(r.Intn(programs))
	case 1:
		if r.Intn(3) == 0 {
			return makes(name, r.Intn(5))
		}
		return exit()
	case 2:
		return write(r.Intn(8))
	case 3, 4, 5:
		return send(name, v)
	case 6, 7, 8:
		return recv(name)
	case 9:
		if r.Intn(3) == 0 {
			return closes(name)
		}
		return read(r.Intn(8))
	case 10:
		return []api.Op{exit(), orElse()}[r.Intn(2)]
	}
	o := api.Op{Kind: 6, Default: r.Intn(6) == 0}
	for range r.Intn(5) {
		o.Cases = append(o.Cases, []api.Case{in(r.Intn(4)), out(r.Intn(4), r.Intn(100))}[r.Intn(2)])
	}
	return o
}

func drawn(r *rand.Rand) api.Script {
	s := api.Script{T: 1 + r.Intn(256), M: 1 + r.Intn(1<<20), Programs: make([][]api.Op, 2+r.Intn(5))}
	for i := range s.Programs {
		if i == 0 {
			s.Programs[0] = []api.Op{makes(0, r.Intn(3)), makes(1, r.Intn(2)), makes(2, 0)}
			for range r.Intn(7) {
				s.Programs[0] = append(s.Programs[0], spawn(r.Intn(len(s.Programs)-1)+1))
			}
		}
		for range r.Intn(12) {
			s.Programs[i] = append(s.Programs[i], drawnOp(r, len(s.Programs)))
		}
	}
	for range r.Intn(201) {
		turn := r.Intn(9)
		switch r.Intn(10) {
		case 0:
			turn = -1
		case 1:
			turn = r.Intn(1001)
		}
		s.Plan = append(s.Plan, turn)
	}
	for range r.Intn(20) {
		s.Draws = append(s.Draws, r.Intn(1001))
	}
	return s
}

// kinds tells what traces and verdicts came up, so that drawn scripts are known to have reached all of it.
func kinds(seen map[string]int, l []api.Event, verdict int) {
	seen[fmt.Sprintf("verdict %d", verdict)]++
	for i, e := range l {
		seen[fmt.Sprintf("event %d, served %t, select %t, send %t, ok %t", e.Kind, e.Mate >= 0, e.Case >= 0, e.Send, e.OK)]++
		if e.Kind == api.EvPanic && i > 0 && l[i-1].Kind == api.EvClose {
			seen["a sender's panic"]++
		}
	}
}

func TestDrawnRuns(t *testing.T) {
	r := rand.New(rand.NewSource(13))
	seen := map[string]int{}
	for range 4000 {
		s := drawn(r)
		l := walk(t, s)
		_, v := loom.Run(s)
		kinds(seen, l, v)
		// Compact entries change nothing but that they stand in the trace.
		bare, v2 := loom.Run(sheet.Bare(s))
		l = slices.DeleteFunc(l, func(e api.Event) bool { return e.Kind == api.EvCompact })
		if !slices.Equal(l, bare) || v != v2 {
			t.Fatalf("%v, %d; without Compact %v, %d", l, v, bare, v2)
		}
	}
	for v := 1; v <= 4; v++ {
		if seen[fmt.Sprintf("verdict %d", v)] < 20 {
			t.Errorf("verdict %d is rare: %v", v, seen)
		}
	}
	if len(seen) < 32 || seen["a sender's panic"] < 5 {
		t.Errorf("the drawn scripts reach too little: %d, %v", len(seen), seen)
	}
}
