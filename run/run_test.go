package run_test

import (
	"math"
	"reflect"
	"slices"
	"testing"

	"staithe/api"
	"staithe/cell"
	"staithe/query"
	"staithe/remap"
	"staithe/report"
	"staithe/run"
	"staithe/sheet"
	"staithe/stamp"
)

func spawn(program int) api.Op          { return api.Op{Kind: api.OpSpawn, A: program} }
func makes(name, size int) api.Op       { return api.Op{Kind: api.OpMake, A: name, B: size} }
func send(name, v int) api.Op           { return api.Op{Kind: api.OpSend, A: name, B: v} }
func recv(name int) api.Op              { return api.Op{Kind: api.OpRecv, A: name} }
func closes(name int) api.Op            { return api.Op{Kind: api.OpClose, A: name} }
func read(cell int) api.Op              { return api.Op{Kind: api.OpRead, A: cell} }
func write(cell int) api.Op             { return api.Op{Kind: api.OpWrite, A: cell} }
func exit() api.Op                      { return api.Op{Kind: api.OpExit} }
func program(l ...api.Op) []api.Op      { return l }
func plan(l ...int) []int               { return l }
func programs(l ...[]api.Op) [][]api.Op { return l }

// compact is the plan's entry.
const compact = api.Compact

// script is one with much room.
func script(programs [][]api.Op, plan []int, draws ...int) api.Script {
	return api.Script{T: 256, M: 1 << 20, Programs: programs, Plan: plan, Draws: draws}
}

// within is a script with as much room as is told.
func within(t, m int, s api.Script) api.Script {
	s.T, s.M = t, m
	return s
}

// equal tells whether two results are the same; lists without an element are.
func equal(a, b run.Result) bool {
	return a.Verdict == b.Verdict && slices.Equal(a.Races, b.Races) && slices.Equal(a.Log.Events, b.Log.Events) && slices.Equal(a.Log.Records, b.Log.Records) &&
		slices.EqualFunc(a.Log.Stamps, b.Log.Stamps, func(x, y stamp.Stamp) bool { return x.Epoch == y.Epoch && slices.Equal(x.Clock, y.Clock) })
}

// malformed has a result be that of no script.
func malformed(t *testing.T, name string, r run.Result) {
	t.Helper()
	if !equal(r, run.Result{Verdict: api.Malformed}) {
		t.Errorf("%q: %v", name, r)
	}
}

// ends has a script's run end so, behind events of these kinds.
func ends(t *testing.T, name string, s api.Script, verdict int, kinds ...int) run.Result {
	t.Helper()
	r, _ := agrees(t, s)
	var got []int
	for _, e := range r.Log.Events {
		got = append(got, e.Kind)
	}
	if r.Verdict != verdict || !slices.Equal(got, kinds) {
		t.Errorf("%s: %d behind %v, not %d behind %v", name, r.Verdict, got, verdict, kinds)
	}
	return r
}

// recorded has a result have just these records.
func recorded(t *testing.T, name string, r run.Result, want ...remap.Record) {
	t.Helper()
	if !slices.Equal(r.Log.Records, want) {
		t.Errorf("%s: %v, not %v", name, r.Log.Records, want)
	}
}

// raced has a result have just these races.
func raced(t *testing.T, name string, r run.Result, want ...report.Race) {
	t.Helper()
	if !slices.Equal(r.Races, want) {
		t.Errorf("%s: %v, not %v", name, r.Races, want)
	}
}

// stamped has an event have this epoch and this list.
func stamped(t *testing.T, r run.Result, at, tid, clock int, list ...int) {
	t.Helper()
	if x := r.Log.Stamps[at]; x.Epoch.Tid() != tid || x.Epoch.Clock() != clock || !slices.Equal(x.Clock, list) {
		t.Errorf("%d: tid %d at %d, %v, not tid %d at %d, %v", at, x.Epoch.Tid(), x.Epoch.Clock(), x.Clock, tid, clock, list)
	}
}

// TestHandOver is the document's first example.
func TestHandOver(t *testing.T) {
	s := script(programs(program(makes(0, 0), spawn(1), recv(0)), program(send(0, 5))), plan(0, 0, 0, 0))
	r := ends(t, "hand-over", s, api.Spent, 2, 1, 6, 3, 7)
	stamped(t, r, 0, 0, 1, 1)
	stamped(t, r, 1, 0, 1, 1)
	stamped(t, r, 2, 0, 2, 2)
	stamped(t, r, 3, 1, 1, 2, 1)
	stamped(t, r, 4, 0, 3, 3, 1)
	recorded(t, "hand-over", r, remap.Record{From: -1}, remap.Record{G: 1, Tid: 1, From: 1})
	raced(t, "hand-over", r)
	if n := run.Tids(r); n != 2 {
		t.Errorf("Tids: %d", n)
	}
}

// TestABufferOfOne: the second send knows of the first receive.
func TestABufferOfOne(t *testing.T) {
	s := script(programs(program(makes(0, 1), spawn(1), send(0, 5), send(0, 6)), program(recv(0))), plan(0, 0, 0, 1, 0))
	r := ends(t, "a buffer", s, api.Spent, 2, 1, 3, 4, 3)
	stamped(t, r, 3, 1, 1, 2, 1)
	stamped(t, r, 4, 0, 3, 3, 1)
}

func TestASelectTakesWhatIsDrawn(t *testing.T) {
	choose := api.Op{Kind: api.OpSelect, Cases: []api.Case{{Chan: 0}, {Chan: 1}}}
	start := programs(program(makes(0, 1), makes(1, 1), send(0, 5), send(1, 6), choose))
	for draw := range 4 {
		r := ends(t, "a select", script(start, plan(0, 0, 0, 0, 0), draw), api.Spent, 2, 2, 3, 3, 4)
		if e := r.Log.Events[4]; e.Case != draw%2 || e.Value != 5+draw%2 {
			t.Errorf("drawn %d: %v", draw, e)
		}
	}
}

// TestAClosedChannel: a receive is not OK, and knows of the closing.
func TestAClosedChannel(t *testing.T) {
	s := script(programs(program(makes(0, 0), spawn(1), read(0), closes(0)), program(recv(0))), plan(0, 0, 0, 0, 1))
	r := ends(t, "closed", s, api.Spent, 2, 1, 9, 5, 4)
	stamped(t, r, 4, 1, 1, 2, 1)
	if r.Log.Events[4].OK {
		t.Errorf("%v", r.Log.Events[4])
	}
}

func TestVerdicts(t *testing.T) {
	ends(t, "no plan", script(programs(program()), nil), api.Spent)
	ends(t, "an exit", script(programs(program()), plan(0)), api.AllExited, 11)
	ends(t, "an exit, and entries behind it", script(programs(program(exit(), read(0))), plan(0, 0, compact)), api.AllExited, 11)
	ends(t, "a nil channel", script(programs(program(recv(3))), plan(7, compact)), api.Deadlock, 6)
	ends(t, "a nil channel is closed", script(programs(program(closes(3))), plan(0, compact)), api.Panicked, 12)
	ends(t, "the plan is spent", script(programs(program(read(0), read(0))), plan(compact, 0)), api.Spent, 13, 9)
	ends(t, "a sender's panic", script(programs(program(makes(0, 0), spawn(1), closes(0)), program(send(0, 5))), plan(0, 0, 1, 0)), api.Panicked, 2, 1, 6, 5, 12)
}

func TestNoTidIsFree(t *testing.T) {
	two := programs(program(spawn(1), spawn(1), read(0)), program())
	r := ends(t, "one tid", within(1, 99, script(two, plan(0))), api.Saturated)
	recorded(t, "one tid", r, remap.Record{From: -1})
	if len(r.Log.Events) != 0 || len(r.Log.Stamps) != 0 || len(r.Races) != 0 {
		t.Errorf("%v", r)
	}
	ends(t, "one tid, and no step", within(1, 99, script(two, nil)), api.Spent)
	ends(t, "two", within(2, 99, script(two, plan(0, 0))), api.Saturated, 1)
	ends(t, "three", within(3, 99, script(two, plan(0, 0))), api.Spent, 1, 1)
	ends(t, "one that exited has a tid", within(2, 99, script(two, plan(0, 1, 0, 0))), api.Saturated, 1, 11)
	ends(t, "until it is retired", within(2, 99, script(two, plan(0, 1, compact, 0, 0))), api.Spent, 1, 11, 13, 1, 9)
	// Somebody else could go on.
	ends(t, "the run is over", within(2, 99, script(two, plan(0, 0, 1, 0, compact))), api.Saturated, 1)
}

// TestWhoCannotTell: at the greatest clock all goes on that does not tell.
func TestWhoCannotTell(t *testing.T) {
	choose := api.Op{Kind: api.OpSelect}
	pass := api.Op{Kind: api.OpSelect, Default: true}
	for name, o := range map[string]api.Op{"spawn": spawn(0), "send": send(0, 5), "receive": recv(0), "close": closes(0), "select": choose, "send on nil": send(1, 5), "receive from nil": recv(1)} {
		s := script(programs(program(makes(0, 1), o)), plan(0, 0))
		ends(t, name, within(9, 1, s), api.Saturated, 2)
		if r, _ := agrees(t, within(9, 2, s)); len(r.Log.Events) != 2 || r.Verdict == api.Saturated {
			t.Errorf("%s: %v", name, r)
		}
	}
	s := script(programs(program(makes(0, 1), read(0), write(0), pass, exit())), plan(0, 0, compact, 0, 0, 0))
	ends(t, "what does not tell", within(1, 1, s), api.AllExited, 2, 9, 13, 10, 8, 11)
	s = script(programs(program(closes(0))), plan(0))
	ends(t, "a panic", within(1, 1, s), api.Panicked, 12)
	s = script(programs(program(makes(0, 0), closes(0), send(0, 5))), plan(0, 0, 0))
	ends(t, "a send's panic", within(1, 2, s), api.Panicked, 2, 5, 12)
	s = script(programs(program(makes(0, 0), closes(0), recv(0), recv(0))), plan(0, 0, 0, 0))
	ends(t, "a receive that is not OK tells", within(1, 3, s), api.Saturated, 2, 5, 4)
}

// TestAWakeDoesNotTell: one at the greatest clock may be served; a step of which the first event has no room leaves nothing.
func TestAWakeDoesNotTell(t *testing.T) {
	s := script(programs(program(makes(0, 0), spawn(1), send(0, 5), send(0, 6)), program(recv(0), recv(0))), plan(0, 0, 1, 0, 1, 0))
	r := ends(t, "served", within(2, 3, s), api.Saturated, 2, 1, 6, 3, 7, 6)
	stamped(t, r, 4, 1, 2, 2, 2)
	ends(t, "with more room", within(2, 4, s), api.Spent, 2, 1, 6, 3, 7, 6, 3, 7)
	s = script(programs(program(makes(0, 0), spawn(1), spawn(1), closes(0)), program(recv(0))), plan(0, 0, 0, 1, 1, 0))
	ends(t, "two that wait", within(3, 3, s), api.Saturated, 2, 1, 1, 6, 6)
	ends(t, "and are woken", within(3, 4, s), api.Spent, 2, 1, 1, 6, 6, 5, 7, 7)
}

// TestForgotten: one that told nobody is retired with the cut 0, and its tid is given again.
func TestForgotten(t *testing.T) {
	s := script(programs(program(spawn(1), read(1), spawn(1), spawn(2)), program(), program(read(0))), plan(0, 1, compact, 0, 0, compact, 1, compact, compact, 0))
	r := ends(t, "forgotten", within(2, 99, s), api.Spent, 1, 11, 13, 9, 1, 13, 11, 13, 13, 1)
	recorded(t, "forgotten", r, remap.Record{From: -1},
		remap.Record{G: 1, Tid: 1, From: 0, Gone: true, Till: 2}, remap.Record{G: 2, Tid: 1, From: 4, Gone: true, Till: 7}, remap.Record{G: 3, Tid: 1, From: 9})
	stamped(t, r, 1, 1, 1, 1, 1)
	stamped(t, r, 3, 0, 2, 2)
	stamped(t, r, 6, 1, 1, 2, 1)
	for at, want := range map[int][]int{2: {1}, 7: {2}, 5: nil, 8: nil, 0: nil, -1: nil, 10: nil} {
		if l := run.Retired(r, at); !slices.Equal(l, want) {
			t.Errorf("Retired(%d): %v, not %v", at, l, want)
		}
	}
	if n := run.Tids(r); n != 2 {
		t.Errorf("Tids: %d", n)
	}
}

// TestTheFirstOneIsForgotten: what it told is known to all that live.
func TestTheFirstOneIsForgotten(t *testing.T) {
	s := script(programs(program(spawn(1)), program(spawn(2), read(0)), program(read(0))), plan(0, 0, compact, 0, 1, 0))
	r := ends(t, "the first one", within(2, 99, s), api.Spent, 1, 11, 13, 1, 9, 9)
	recorded(t, "the first one", r, remap.Record{From: -1, Gone: true, Till: 2, Cut: 1}, remap.Record{G: 1, Tid: 1}, remap.Record{G: 2, Tid: 0, From: 3})
	stamped(t, r, 3, 1, 1, 0, 1)
	stamped(t, r, 4, 0, 1, 1, 1)
	if is, errno := query.Before(r.Log, 0, 4); !is || errno != api.OK {
		t.Errorf("the spawn: %t, %v", is, errno)
	}
	if is, errno := query.Before(r.Log, 1, 4); is || errno != api.OK {
		t.Errorf("the exit: %t, %v", is, errno)
	}
}

// TestWhatIsHeld: who may be learnt of yet is not retired: by what is in a buffer, by a closing, by one that waits.
func TestWhatIsHeld(t *testing.T) {
	s := script(programs(program(makes(0, 1), spawn(1), recv(0)), program(send(0, 5))), plan(0, 0, 1, 1, compact, 0, compact))
	r := ends(t, "a buffer", s, api.Spent, 2, 1, 3, 11, 13, 4, 13)
	recorded(t, "a buffer", r, remap.Record{From: -1}, remap.Record{G: 1, Tid: 1, From: 1, Gone: true, Till: 6, Cut: 1})

	s = script(programs(program(makes(0, 0), spawn(1), recv(0)), program(closes(0))), plan(0, 0, 1, 1, compact, 0, compact))
	r = ends(t, "a closing", s, api.Spent, 2, 1, 5, 11, 13, 4, 13)
	recorded(t, "a closing", r, remap.Record{From: -1}, remap.Record{G: 1, Tid: 1, From: 1, Gone: true, Till: 6, Cut: 1})

	// Goroutine 2 learns of 1, and waits; 0 knows nothing of it.
	s = script(programs(program(makes(0, 0), makes(1, 0), spawn(1), spawn(2), recv(1)), program(send(0, 5)), program(recv(0), send(1, 6))), plan(0, 0, 0, 0, 1, 1, 1, compact, 1, compact, 0, compact))
	r = ends(t, "one that waits", s, api.Spent, 2, 2, 1, 1, 6, 4, 7, 11, 13, 6, 13, 4, 7, 13)
	recorded(t, "one that waits", r, remap.Record{From: -1}, remap.Record{G: 1, Tid: 1, From: 2, Gone: true, Till: 13, Cut: 1}, remap.Record{G: 2, Tid: 2, From: 3})
}

// TestSeveralAtOnce: by their ids; goroutine 3 is known to the one that it spawned, up to that one's exit.
func TestSeveralAtOnce(t *testing.T) {
	s := script(programs(program(spawn(1), spawn(1), spawn(2), spawn(1)), program(), program(spawn(1))), plan(0, 0, 0, 3, 1, 1, 1, compact, 0, compact, 1, 1, compact))
	r, _ := agrees(t, s)
	for at, want := range map[int][]int{7: {1, 2}, 9: nil, 12: {3, 4, 5}} {
		if l := run.Retired(r, at); !slices.Equal(l, want) {
			t.Errorf("Retired(%d): %v, not %v: %v", at, l, want, r.Log.Records)
		}
	}
	if r.Log.Records[5].Tid != 1 || run.Tids(r) != 5 {
		t.Errorf("%v", r.Log.Records)
	}
}

func TestRaces(t *testing.T) {
	start := func(first, second []api.Op) [][]api.Op {
		return programs(slices.Concat(program(makes(0, 0), spawn(1)), first), second)
	}
	r := ends(t, "a read", script(start(program(write(2)), program(read(2))), plan(0, 0, 0, 1)), api.Spent, 2, 1, 10, 9)
	raced(t, "a read", r, report.Race{Cell: 2, At: 3, G: 1, With: cell.Wrote})
	r = ends(t, "a write", script(start(program(read(2)), program(write(2))), plan(0, 0, 0, 1)), api.Spent, 2, 1, 9, 10)
	raced(t, "a write", r, report.Race{Cell: 2, At: 3, G: 1, With: cell.Read, Write: true})
	r = ends(t, "two writes", script(start(program(write(2)), program(write(2))), plan(0, 0, 1, 0)), api.Spent, 2, 1, 10, 10)
	raced(t, "two writes", r, report.Race{Cell: 2, At: 3, G: 0, With: cell.Wrote, Write: true})
	r = ends(t, "two reads", script(start(program(read(2)), program(read(2))), plan(0, 0, 0, 1)), api.Spent, 2, 1, 9, 9)
	raced(t, "two reads", r)
	r = ends(t, "two cells", script(start(program(write(2)), program(write(3))), plan(0, 0, 0, 1)), api.Spent, 2, 1, 10, 10)
	raced(t, "two cells", r)
	r = ends(t, "behind a send", script(start(program(write(2), send(0, 5)), program(recv(0), read(2))), plan(0, 0, 0, 0, 1, 1)), api.Spent, 2, 1, 10, 6, 4, 7, 9)
	raced(t, "behind a send", r)
	r = ends(t, "several cells", script(start(program(write(7), write(0), write(7)), program(read(0), write(7), write(0))), plan(0, 0, 0, 0, 1, 1, 1, 0)), api.Spent, 2, 1, 10, 10, 9, 10, 10, 10)
	raced(t, "several cells", r, report.Race{Cell: 0, At: 4, G: 1, With: cell.Wrote}, report.Race{Cell: 7, At: 5, G: 1, With: cell.Wrote, Write: true})
}

// TestRacesWithTheForgotten: what one that was retired did and told nobody is a race with each later access, though the tid
// is another one's; what it told is none.
func TestRacesWithTheForgotten(t *testing.T) {
	s := script(programs(program(spawn(1), spawn(2)), program(write(3), read(4)), program(read(3), read(4), write(4))), plan(0, 1, 1, 1, compact, 0, 1, 1, 1))
	r := ends(t, "untold", within(2, 99, s), api.Spent, 1, 10, 9, 11, 13, 1, 9, 9, 10)
	raced(t, "untold", r, report.Race{Cell: 3, At: 6, G: 2, With: cell.Wrote}, report.Race{Cell: 4, At: 8, G: 2, With: cell.Read, Write: true})
	if r.Log.Records[2].Tid != 1 {
		t.Errorf("%v", r.Log.Records)
	}
	s = script(programs(program(makes(0, 1), spawn(1), recv(0), spawn(2)), program(write(3), send(0, 5), write(4)), program(write(3), read(4))), plan(0, 0, 1, 1, 1, 1, 0, compact, 0, 1, 1))
	r = ends(t, "told", within(2, 99, s), api.Spent, 2, 1, 10, 3, 10, 11, 4, 13, 1, 10, 9)
	raced(t, "told", r, report.Race{Cell: 4, At: 10, G: 2, With: cell.Wrote})
	if r.Log.Records[1].Cut != 1 || r.Log.Records[2].Tid != 1 {
		t.Errorf("%v", r.Log.Records)
	}
}

// TestThreeOneBehindTheOther: two tids are enough with Compact entries, not without.
func TestThreeOneBehindTheOther(t *testing.T) {
	s := within(2, 99, script(programs(program(spawn(1), spawn(1), spawn(1)), program(write(0))), plan(0, 1, 1, compact, 0, 1, 1, compact, 0, 1, 1, 0)))
	if r, _ := agrees(t, s); r.Verdict != api.AllExited || len(r.Log.Records) != 4 || run.Tids(r) != 2 {
		t.Errorf("%v", r)
	}
	ends(t, "without", sheet.Bare(s), api.Saturated, 1, 10, 11)
}

func TestScriptsThatAreNotRight(t *testing.T) {
	right := script(programs(program(spawn(0))), plan(0))
	for name, s := range map[string]api.Script{
		"nothing": {}, "T 0": within(0, 9, right), "T 257": within(257, 9, right), "M 0": within(9, 0, right), "M too great": within(9, 1<<20+1, right), "T below 0": within(math.MinInt, 9, right),
		"no program":             script(nil, plan(0)),
		"nine programs":          script(make([][]api.Op, 9), plan(0)),
		"a wrong operation":      script(programs(program(spawn(1))), plan(0)),
		"too many operations":    script(programs(make([]api.Op, 33)), plan(0)),
		"a wrong entry":          script(programs(program()), plan(-2)),
		"a plan that is too big": script(programs(program()), make([]int, 201)),
		"a wrong draw":           script(programs(program()), plan(0), 1001),
		"too many draws":         script(programs(program()), plan(0), make([]int, 65)...),
	} {
		malformed(t, name, run.Run(s))
	}
	if r := run.Run(right); r.Verdict != api.Spent {
		t.Errorf("%v", r)
	}
}

func TestBytes(t *testing.T) {
	s := script(programs(program(makes(0, 1), spawn(1), send(0, 5), write(0)), program(recv(0), write(0))), plan(0, 0, 0, 1, compact, 0, 1, 1, compact, 0))
	b, errno := sheet.Encode(s)
	if errno != api.OK {
		t.Fatal(errno)
	}
	if r := run.Bytes(b); !equal(r, run.Run(s)) || r.Verdict != api.AllExited || len(r.Races) != 1 || len(r.Log.Events) != 10 {
		t.Errorf("%v", r)
	}
	for n := range b {
		malformed(t, b[:n], run.Bytes(b[:n]))
	}
	for c := range 256 {
		more := b + string([]byte{byte(c)})
		malformed(t, more, run.Bytes(more))
	}
	malformed(t, "\x00"+b[1:], run.Bytes("\x00"+b[1:]))
}

// TestRetiredAndTidsOfAnyRecords: they are asked as they are.
func TestRetiredAndTidsOfAnyRecords(t *testing.T) {
	r := run.Result{Log: query.Log{Records: []remap.Record{
		{G: 9, Tid: 3, Gone: true, Till: 4, Cut: 1}, {G: 2, Tid: -1, Gone: true, Till: -1}, {G: 5, Tid: 3, Till: 4}, {G: 1, Tid: math.MaxInt, Gone: true, Till: 4}, {G: 1, Tid: 300, Gone: true, Till: 5}, {G: 0, Tid: 3, From: 4}, {G: -7, Tid: math.MinInt, Gone: true, Till: 4},
	}}}
	before := slices.Clone(r.Log.Records)
	for at, want := range map[int][]int{4: {9, 1, -7}, 5: {1}, -1: {2}, 0: nil, 3: nil, 6: nil, math.MaxInt: nil, math.MinInt: nil} {
		if l := run.Retired(r, at); !slices.Equal(l, want) {
			t.Errorf("Retired(%d): %v, not %v", at, l, want)
		}
	}
	if n := run.Tids(r); n != 5 {
		t.Errorf("Tids: %d", n)
	}
	if !slices.Equal(r.Log.Records, before) {
		t.Errorf("%v, not %v", r.Log.Records, before)
	}
	if n, l := run.Tids(run.Result{}), run.Retired(run.Result{}, 0); n != 0 || len(l) != 0 {
		t.Errorf("%d, %v", n, l)
	}
}

// TestTheGreatestRun: as many goroutines, and as many that are woken at once, as a plan has room for.
func TestTheGreatestRun(t *testing.T) {
	s := script(programs(program(spawn(0), spawn(0), spawn(0))), nil)
	for i := range api.MaxPlan {
		s.Plan = append(s.Plan, i)
	}
	if r, _ := agrees(t, s); r.Verdict != api.Spent || len(r.Log.Events) != api.MaxPlan || len(r.Log.Records) < 100 {
		t.Errorf("%d, %d, %d", r.Verdict, len(r.Log.Events), len(r.Log.Records))
	}
	first := program(makes(0, 0))
	for range 30 {
		first = append(first, spawn(1))
	}
	s = script(programs(append(first, closes(0)), program(recv(0), recv(0))), slices.Repeat(plan(0), 31))
	s.Plan = append(append(s.Plan, slices.Repeat(plan(1), 30)...), 0)
	r, _ := agrees(t, s)
	if r.Verdict != api.Spent || len(r.Log.Events) != 31+30+1+30 {
		t.Errorf("%d, %d", r.Verdict, len(r.Log.Events))
	}
}

// TestAnswersAreNew: what is done to one answer's lists, and to their spare room, is seen in no other list.
func TestAnswersAreNew(t *testing.T) {
	s := script(programs(program(makes(0, 1), spawn(1), write(0), send(0, 5)), program(write(0))), plan(0, 0, 1, 1, compact, 0, 0, compact, 0))
	r, other := run.Run(s), run.Run(s)
	for i, x := range r.Log.Stamps {
		l := x.Clock[:cap(x.Clock)]
		for k := range l {
			l[k] = i + 1000
		}
	}
	for i, x := range r.Log.Stamps {
		for _, n := range x.Clock[:cap(x.Clock)] {
			if n != i+1000 {
				t.Fatalf("%d: %v", i, x.Clock)
			}
		}
	}
	clear(r.Log.Events[:cap(r.Log.Events)])
	clear(r.Log.Stamps[:cap(r.Log.Stamps)])
	clear(r.Log.Records[:cap(r.Log.Records)])
	clear(r.Races[:cap(r.Races)])
	if !equal(other, run.Run(s)) || other.Verdict != api.AllExited || len(other.Races) != 1 {
		t.Errorf("%v", other)
	}
	gone := run.Retired(other, 4)
	if len(gone) != 1 || gone[0] != 1 {
		t.Fatalf("%v", gone)
	}
	gone[0] = 7
	if again := run.Retired(other, 4); again[0] != 1 {
		t.Errorf("%v", again)
	}
}

// TestTheScriptStaysAsItWas, its lists' spare room, too.
func TestTheScriptStaysAsItWas(t *testing.T) {
	choose := api.Op{Kind: api.OpSelect, Cases: []api.Case{{Chan: 1}, {Send: true, Chan: 0, Value: 5}, {Chan: 7}}[:2]}
	build := func() (api.Script, []int, []int) {
		entries, draws := plan(0, 0, compact, 0, 77, 78), []int{3, 4, 5}
		return api.Script{T: 3, M: 9, Programs: programs(program(makes(0, 1), choose, exit())), Plan: entries[:4], Draws: draws[:2]}, entries, draws
	}
	s, entries, draws := build()
	first := run.Run(s)
	same, whole, drawn := build()
	if !reflect.DeepEqual(s, same) || !slices.Equal(entries, whole) || !slices.Equal(draws, drawn) || choose.Cases[:3][2] != (api.Case{Chan: 7}) {
		t.Errorf("%v, %v, %v", s, entries, draws)
	}
	if second := run.Run(s); !equal(first, second) || first.Verdict != api.AllExited {
		t.Errorf("%v, not %v", second, first)
	}
}
