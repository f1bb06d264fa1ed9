package verdict_test

import (
	"math"
	"slices"
	"testing"

	"staithe/api"
	"staithe/entry"
	"staithe/epoch"
	"staithe/query"
	"staithe/remap"
	"staithe/report"
	"staithe/run"
	"staithe/stamp"
	"staithe/verdict"
)

func spawn(program int) api.Op          { return api.Op{Kind: api.OpSpawn, A: program} }
func makes(name, size int) api.Op       { return api.Op{Kind: api.OpMake, A: name, B: size} }
func send(name, v int) api.Op           { return api.Op{Kind: api.OpSend, A: name, B: v} }
func recv(name int) api.Op              { return api.Op{Kind: api.OpRecv, A: name} }
func closes(name int) api.Op            { return api.Op{Kind: api.OpClose, A: name} }
func read(cell int) api.Op              { return api.Op{Kind: api.OpRead, A: cell} }
func write(cell int) api.Op             { return api.Op{Kind: api.OpWrite, A: cell} }
func exit() api.Op                      { return api.Op{Kind: api.OpExit} }
func program(l ...api.Op) []api.Op      { return l }
func programs(l ...[]api.Op) [][]api.Op { return l }
func plan(l ...int) []int               { return l }

// compact is the plan's entry.
const compact = api.Compact

// script is one with much room.
func script(programs [][]api.Op, plan []int, draws ...int) api.Script {
	return api.Script{T: 256, M: 1 << 20, Programs: programs, Plan: plan, Draws: draws}
}

// pack is a tid's clock.
func pack(t *testing.T, tid, clock int) epoch.Epoch {
	t.Helper()
	e, errno := epoch.Pack(tid, clock)
	if errno != api.OK {
		t.Fatal(errno)
	}
	return e
}

// two is a run in which a goroutine is forgotten, and its tid given again, twice:
// 0 spawn of 1, 1 write by 1, 2 exit of 1, 3 compact, 4 spawn of 2, 5 write by 2, 6 exit of 2, 7 write by 0, 8 compact, 9 exit of 0.
func two() run.Result {
	return run.Run(script(programs(program(spawn(1), spawn(1), write(2)), program(write(2))), plan(0, 1, 1, compact, 0, 1, 1, 0, compact, 0)))
}

// handed is a run in which 0 learns of 1 by a channel without a buffer, then waits for ever:
// 0 make, 1 spawn of 1, 2 park of 0, 3 read by 1, 4 send by 1, 5 wake of 0, 6 write by 0, 7 read by 1.
func handed() run.Result {
	return run.Run(script(programs(program(makes(0, 0), spawn(1), recv(0), write(1)), program(read(1), send(0, 5), read(2))), plan(0, 0, 0, 1, 1, 0, 1)))
}

// is has a result's least point that is not so be this one, at this place.
func is(t *testing.T, name string, r run.Result, point, place int) {
	t.Helper()
	if n, at := verdict.Of(r); n != point || at != place {
		t.Errorf("%s: %d at %d, not %d at %d", name, n, at, point, place)
	}
	if n, at := verdict.Check(r.Log, r.Races); n != point || at != place {
		t.Errorf("%s: Check: %d at %d, not %d at %d", name, n, at, point, place)
	}
}

// tampered is what is done to a result, and what is not so then.
type tampered struct {
	name         string
	does         func(r *run.Result)
	point, place int
}

func all(t *testing.T, start func() run.Result, l []tampered) {
	t.Helper()
	is(t, "as it was", start(), 0, 0)
	for _, x := range l {
		r := start()
		x.does(&r)
		is(t, x.name, r, x.point, x.place)
	}
}

// shortened is a result up to a place; records and races are as they were.
func shortened(r run.Result, n int) run.Result {
	r.Log.Events, r.Log.Stamps = r.Log.Events[:n], r.Log.Stamps[:n]
	return r
}

func TestTraces(t *testing.T) {
	all(t, two, []tampered{
		{"nobody's event", func(r *run.Result) { r.Log.Events[1].G = 5 }, 1, 0},
		{"an event that is not right", func(r *run.Result) { r.Log.Events[9].Value = 3 }, 1, 0},
		{"no such kind", func(r *run.Result) { r.Log.Events[4].Kind = 14 }, 1, 0},
		{"a stamp too few", func(r *run.Result) { r.Log.Stamps = r.Log.Stamps[:9] }, 1, 0},
		{"a stamp too many", func(r *run.Result) { r.Log.Stamps = append(r.Log.Stamps, stamp.Stamp{}) }, 1, 0},
		{"an event too many", func(r *run.Result) { r.Log.Events = append(r.Log.Events, entry.Bare(api.EvCompact, -1)) }, 1, 0},
		{"no stamps", func(r *run.Result) { r.Log.Stamps = nil }, 1, 0},
		{"no events", func(r *run.Result) { r.Log.Events = nil }, 1, 0},
		{"all points are wrong", func(r *run.Result) {
			r.Log.Events[1].G, r.Races, r.Log.Records = 5, nil, nil
			r.Log.Stamps[0].Epoch, r.Log.Stamps[9].Clock = 0, nil
		}, 1, 0},
	})
}

// TestAServiceThatIsMissing: at the end it may be, elsewhere it may not. As long as the receive is not completed, what begins
// it is not ahead of the send.
func TestAServiceThatIsMissing(t *testing.T) {
	r := shortened(handed(), 5)
	is(t, "at the end", r, 3, 4)
	r.Log.Stamps[4].Clock[0] = 1
	is(t, "at the end, with the spawn known alone", r, 0, 0)
	if a, b, errno := verdict.Pairs(r.Log); a != 4 || b != 2 || errno != api.OK {
		t.Errorf("Pairs: %d, %d, %v", a, b, errno)
	}
	r = run.Run(script(programs(program(makes(0, 1), spawn(1), recv(0)), program(send(0, 5))), plan(0, 0, 0, 1)))
	is(t, "with a buffer", shortened(r, 4), 0, 0)
	r = handed()
	r.Log.Events, r.Log.Stamps = slices.Delete(r.Log.Events, 5, 6), slices.Delete(r.Log.Stamps, 5, 6)
	is(t, "in the middle", r, 1, 0)
}

// reads is a log of so many reads by goroutine 0.
func reads(t *testing.T, n int) query.Log {
	t.Helper()
	e := entry.Bare(api.EvRead, 0)
	e.Value = 7
	l := query.Log{Events: slices.Repeat([]api.Event{e}, n), Records: remap.New().All()}
	for range n {
		l.Stamps = append(l.Stamps, stamp.Stamp{Epoch: pack(t, 0, 1), Clock: []int{1}})
	}
	return l
}

func TestLength(t *testing.T) {
	for n, want := range map[int]int{0: 0, 1: 0, 1023: 0, 1024: 0, 1025: 1, 2000: 1, 2001: 1} {
		l := reads(t, n)
		if point, at := verdict.Check(l, nil); point != want || at != 0 {
			t.Errorf("%d events: %d at %d", n, point, at)
		}
		errno := api.OK
		if want > 0 {
			errno = api.ErrForm
		}
		if a, b, got := verdict.Pairs(l); a != 0 || b != 0 || got != errno {
			t.Errorf("%d events: %d, %d, %v", n, a, b, got)
		}
	}
}

func TestEpochs(t *testing.T) {
	all(t, two, []tampered{
		{"a clock is one more", func(r *run.Result) { r.Log.Stamps[4].Epoch++ }, 2, 4},
		{"a clock is one less", func(r *run.Result) { r.Log.Stamps[9].Epoch-- }, 2, 9},
		{"another tid", func(r *run.Result) { r.Log.Stamps[5].Epoch = pack(t, 2, 1) }, 2, 5},
		{"none", func(r *run.Result) { r.Log.Stamps[7].Epoch = epoch.None }, 2, 7},
		{"the tail", func(r *run.Result) { r.Log.Stamps[0].Epoch = epoch.Tail }, 2, 0},
		{"no epoch", func(r *run.Result) { r.Log.Stamps[0].Epoch = 7 }, 2, 0},
		{"a Compact's tail", func(r *run.Result) { r.Log.Stamps[3].Epoch = epoch.Tail }, 2, 3},
		{"a Compact's clock", func(r *run.Result) { r.Log.Stamps[8].Epoch = pack(t, 0, 3) }, 2, 8},
		{"a Compact's that is no epoch", func(r *run.Result) { r.Log.Stamps[8].Epoch = 7 }, 2, 8},
		{"a Compact's list is not asked", func(r *run.Result) { r.Log.Stamps[3].Clock = []int{9, 9, 9} }, 0, 0},
		{"two are wrong", func(r *run.Result) { r.Log.Stamps[6].Epoch, r.Log.Stamps[2].Epoch = 0, 0 }, 2, 2},
		{"a record's tid", func(r *run.Result) { r.Log.Records[2].Tid = 0 }, 2, 5},
		{"a record that is missing", func(r *run.Result) { r.Log.Records = r.Log.Records[:2] }, 2, 5},
		{"no records", func(r *run.Result) { r.Log.Records = nil }, 2, 0},
		{"a record of another one", func(r *run.Result) { r.Log.Records[1].G = 8 }, 2, 1},
		{"the first record counts", func(r *run.Result) {
			r.Log.Records = append([]remap.Record{{G: 1, Tid: 7}}, r.Log.Records...)
		}, 2, 1},
		{"not a later one", func(r *run.Result) { r.Log.Records = append(r.Log.Records, remap.Record{G: 1, Tid: 7}) }, 0, 0},
		{"records in another order", func(r *run.Result) { slices.Reverse(r.Log.Records) }, 0, 0},
		{"ahead of the order", func(r *run.Result) { r.Log.Stamps[9].Epoch, r.Log.Stamps[1].Clock = 0, nil }, 2, 9},
	})
}

// TestOrder: too little is known, or too much: of what stands ahead, or of what is to come.
func TestOrder(t *testing.T) {
	all(t, two, []tampered{
		{"a spawn that is not known", func(r *run.Result) { r.Log.Stamps[5].Clock[0] = 0 }, 3, 5},
		{"one behind a Compact", func(r *run.Result) { r.Log.Stamps[5].Clock[0] = 1 }, 3, 5},
		{"no list", func(r *run.Result) { r.Log.Stamps[1].Clock = nil }, 3, 1},
		{"more than is ahead", func(r *run.Result) { r.Log.Stamps[7].Clock = []int{3, 1} }, 3, 7},
		{"what is to come", func(r *run.Result) { r.Log.Stamps[1].Clock[0] = 2 }, 3, 4},
		{"what is to come later", func(r *run.Result) { r.Log.Stamps[6].Clock[0] = 3 }, 3, 7},
		{"what never comes", func(r *run.Result) { r.Log.Stamps[6].Clock = []int{2, 99, 0, 4} }, 0, 0},
		{"two are wrong", func(r *run.Result) { r.Log.Stamps[6].Clock, r.Log.Stamps[2].Clock = nil, nil }, 3, 2},
		{"one's own number is not asked", func(r *run.Result) { r.Log.Stamps[4].Clock[0] = 1 }, 0, 0},
		{"a cut", func(r *run.Result) { r.Log.Records[1].Cut = 1 }, 3, 4},
		{"a tid given again", func(r *run.Result) { r.Log.Records[1].Gone = false }, 3, 5},
		{"From", func(r *run.Result) { r.Log.Records[2].From = 9 }, 0, 0},
		{"ahead of the races", func(r *run.Result) { r.Races, r.Log.Stamps[6].Clock = nil, nil }, 3, 6},
	})
	all(t, handed, []tampered{
		{"a send that is not known", func(r *run.Result) { r.Log.Stamps[5].Clock[1] = 0 }, 3, 5},
		{"nor later", func(r *run.Result) { r.Log.Stamps[6].Clock = r.Log.Stamps[6].Clock[:1] }, 3, 6},
		{"a park that is not known", func(r *run.Result) { r.Log.Stamps[4].Clock[0]-- }, 3, 4},
	})
}

// TestFirstRaces: only cells and places are asked.
func TestFirstRaces(t *testing.T) {
	all(t, two, []tampered{
		{"none", func(r *run.Result) { r.Races = nil }, 4, 2},
		{"behind it", func(r *run.Result) { r.Races[0].At++ }, 4, 2},
		{"at a later one", func(r *run.Result) { r.Races[0].At = 7 }, 4, 2},
		{"at the first access", func(r *run.Result) { r.Races[0].At = 1 }, 4, 2},
		{"of another cell", func(r *run.Result) { r.Races[0].Cell = 0 }, 4, 0},
		{"of a further cell", func(r *run.Result) { r.Races[0].Cell = 7 }, 4, 2},
		{"of one more", func(r *run.Result) { r.Races = append(r.Races, report.Race{Cell: 5, At: 5}) }, 4, 5},
		{"of the last one, too", func(r *run.Result) { r.Races = append(r.Races, report.Race{Cell: 7}) }, 4, 7},
		{"of two more", func(r *run.Result) { r.Races = append(r.Races, report.Race{Cell: 7}, report.Race{Cell: 3}) }, 4, 3},
		{"at place 0 of none", func(r *run.Result) { r.Races = append([]report.Race{{}}, r.Races...) }, 4, 0},
		{"of what is no cell", func(r *run.Result) { r.Races = append(r.Races, report.Race{Cell: 8}, report.Race{Cell: -1}) }, 0, 0},
		{"told again", func(r *run.Result) { r.Races = append(r.Races, r.Races[0]) }, 0, 0},
		{"told again of another place", func(r *run.Result) { r.Races = append(r.Races, report.Race{Cell: 2, At: 7}) }, 4, 2},
		{"whose, and with what", func(r *run.Result) { r.Races[0] = report.Race{Cell: 2, At: 5, G: 77, With: 9} }, 0, 0},
		{"ahead of who is gone", func(r *run.Result) { r.Races, r.Log.Records[2].Gone = nil, false }, 4, 2},
	})
}

// TestWhoIsGone: at the last Compact nobody's order hangs on it.
func TestWhoIsGone(t *testing.T) {
	all(t, two, []tampered{
		{"not at all", func(r *run.Result) { r.Log.Records[2].Gone = false }, 5, 8},
		{"one that lives", func(r *run.Result) { r.Log.Records[0].Gone, r.Log.Records[0].Till = true, 8 }, 5, 8},
		{"one that is not there", func(r *run.Result) {
			r.Log.Records = append(r.Log.Records, remap.Record{G: 9, Gone: true, Till: 3})
		}, 5, 3},
		{"one below 0", func(r *run.Result) {
			r.Log.Records = append(r.Log.Records, remap.Record{G: -1, Gone: true, Till: 8})
		}, 5, 8},
		{"one that was gone ahead", func(r *run.Result) {
			r.Log.Records = append(r.Log.Records, remap.Record{G: 1, Tid: 1, Gone: true, Till: 8})
		}, 5, 8},
		{"told again", func(r *run.Result) { r.Log.Records = append(r.Log.Records, r.Log.Records[1]) }, 0, 0},
		{"told again with another cut", func(r *run.Result) {
			r.Log.Records = append(r.Log.Records, remap.Record{G: 1, Gone: true, Till: 3, Cut: 1})
		}, 5, 3},
		{"too late", func(r *run.Result) { r.Log.Records[2].Till = 9 }, 5, 8},
		{"never", func(r *run.Result) { r.Log.Records[2].Till = math.MaxInt }, 5, 8},
		{"at an event that is no Compact", func(r *run.Result) { r.Log.Records[2].Till = 7 }, 5, 8},
		{"at the last event, which is none", func(r *run.Result) { r.Log.Records[0].Gone, r.Log.Records[0].Till = true, 9 }, 5, 10},
		{"behind the trace", func(r *run.Result) { r.Log.Records[0].Gone, r.Log.Records[0].Till = true, 10 }, 5, 10},
		{"far behind the trace", func(r *run.Result) { r.Log.Records[0].Gone, r.Log.Records[0].Till = true, math.MaxInt }, 5, 10},
		{"ahead of the trace", func(r *run.Result) {
			r.Log.Records = append(r.Log.Records, remap.Record{G: 5, Gone: true, Till: -1}, remap.Record{G: 6, Gone: true, Till: math.MinInt})
		}, 5, 10},
		{"at another event", func(r *run.Result) {
			r.Log.Records = append(r.Log.Records, remap.Record{G: 5, Gone: true, Till: 0})
		}, 5, 10},
		{"Till and Cut of one that is not", func(r *run.Result) { r.Log.Records[0].Till, r.Log.Records[0].Cut = 5, 7 }, 0, 0},
		{"a record of nobody", func(r *run.Result) { r.Log.Records = append(r.Log.Records, remap.Record{G: 9, Till: 3}) }, 0, 0},
	})
	all(t, func() run.Result { return shortened(two(), 9) }, []tampered{
		{"a cut", func(r *run.Result) { r.Log.Records[2].Cut = 1 }, 5, 8},
		{"a cut below 0", func(r *run.Result) { r.Log.Records[2].Cut = -1 }, 5, 8},
	})
	r := shortened(two(), 8) // its record says that 2 is gone at place 8, where nothing is
	is(t, "behind the end", r, 5, 8)
	r.Log.Records[2].Gone = false
	is(t, "without that", r, 0, 0)
}

// TestCuts: goroutine 1 told 0 all that it ever told, so its cut is 1; and a Compact ahead of that retires nobody.
func TestCuts(t *testing.T) {
	start := func() run.Result { // 0 make, 1 spawn, 2 send by 1, 3 exit of 1, 4 compact, 5 receive by 0, 6 compact, 7 compact
		return run.Run(script(programs(program(makes(0, 1), spawn(1), recv(0)), program(send(0, 5))), plan(0, 0, 1, 1, compact, 0, compact, compact)))
	}
	if x := start().Log.Records[1]; x != (remap.Record{G: 1, Tid: 1, From: 1, Gone: true, Till: 6, Cut: 1}) {
		t.Fatalf("%v", x)
	}
	all(t, start, []tampered{
		{"one less", func(r *run.Result) { r.Log.Records[1].Cut = 0 }, 5, 6},
		{"one more", func(r *run.Result) { r.Log.Records[1].Cut = 2 }, 5, 6},
		{"too soon, with what is known then", func(r *run.Result) { r.Log.Records[1].Till, r.Log.Records[1].Cut = 4, 0 }, 3, 5},
		{"too soon", func(r *run.Result) { r.Log.Records[1].Till = 4 }, 5, 4},
		{"too late", func(r *run.Result) { r.Log.Records[1].Till = 7 }, 5, 6},
		{"not at all", func(r *run.Result) { r.Log.Records[1].Gone = false }, 5, 6},
	})
}

// TestSeveralAtOnce: they exit in another order than that of their ids.
func TestSeveralAtOnce(t *testing.T) {
	start := func() run.Result { // 0, 1, 2 spawns, 3 exit of 3, 4 exit of 1, 5 compact, 6 exit of 2, 7 compact
		return run.Run(script(programs(program(spawn(1), spawn(1), spawn(1)), program()), plan(0, 0, 0, 3, 1, compact, 1, compact)))
	}
	if l := run.Retired(start(), 5); !slices.Equal(l, []int{1, 3}) {
		t.Fatalf("%v", l)
	}
	all(t, start, []tampered{
		{"one is not", func(r *run.Result) { r.Log.Records[3].Gone = false }, 5, 5},
		{"the other one is not", func(r *run.Result) { r.Log.Records[1].Gone = false }, 5, 5},
		{"one is later", func(r *run.Result) { r.Log.Records[1].Till = 7 }, 5, 5},
		{"all are", func(r *run.Result) { r.Log.Records[2].Till = 5 }, 5, 5},
		{"another order", func(r *run.Result) { slices.Reverse(r.Log.Records) }, 0, 0},
	})
}

func TestNothing(t *testing.T) {
	is(t, "nothing", run.Result{}, 0, 0)
	is(t, "a script that is not right", run.Run(api.Script{}), 0, 0)
	is(t, "bytes that are no script", run.Bytes("x"), 0, 0)
	is(t, "a verdict is not asked", run.Result{Verdict: 77}, 0, 0)
	is(t, "a record", run.Result{Log: query.Log{Records: remap.New().All()}}, 0, 0)
	is(t, "a record that is gone", run.Result{Log: query.Log{Records: []remap.Record{{Gone: true}}}}, 5, 0)
	is(t, "a race", run.Result{Races: []report.Race{{Cell: 1}}}, 4, 1)
	is(t, "a stamp", run.Result{Log: query.Log{Stamps: make([]stamp.Stamp, 1)}}, 1, 0)
	if a, b, errno := verdict.Pairs(query.Log{}); a != 0 || b != 0 || errno != api.OK {
		t.Errorf("Pairs: %d, %d, %v", a, b, errno)
	}
	l := []api.Event{entry.Bare(api.EvCompact, -1), entry.Bare(api.EvCompact, -1)}
	log := query.Log{Events: l, Stamps: make([]stamp.Stamp, 2)}
	is(t, "Compacts alone", run.Result{Log: log}, 0, 0)
	if a, b, errno := verdict.Pairs(log); a != 0 || b != 0 || errno != api.OK {
		t.Errorf("Pairs: %d, %d, %v", a, b, errno)
	}
}

func TestPairs(t *testing.T) {
	for _, x := range []struct {
		name          string
		r             run.Result
		ordered, free int
	}{
		{"two", two(), 6, 14},
		{"handed", handed(), 12, 3},
		{"one goroutine", run.Run(script(programs(program(read(0), read(1))), plan(0, 0, compact, 0))), 0, 0},
		{"a spawn", run.Run(script(programs(program(spawn(1), read(0)), program(read(0))), plan(0, 1, 0))), 1, 1},
	} {
		if a, b, errno := verdict.Pairs(x.r.Log); a != x.ordered || b != x.free || errno != api.OK {
			t.Errorf("%s: %d, %d, %v, not %d, %d", x.name, a, b, errno, x.ordered, x.free)
		}
	}
	r := two() // what stamps and records tell is not asked
	r.Log.Stamps, r.Log.Records = make([]stamp.Stamp, 10), nil
	if a, b, errno := verdict.Pairs(r.Log); a != 6 || b != 14 || errno != api.OK {
		t.Errorf("%d, %d, %v", a, b, errno)
	}
	for _, n := range []int{0, 9, 11} {
		r.Log.Stamps = make([]stamp.Stamp, n)
		if a, b, errno := verdict.Pairs(r.Log); a != 0 || b != 0 || errno != api.ErrForm {
			t.Errorf("%d stamps: %d, %d, %v", n, a, b, errno)
		}
	}
	r = two()
	r.Log.Events[2], r.Log.Events[1] = r.Log.Events[1], r.Log.Events[2]
	if a, b, errno := verdict.Pairs(r.Log); a != 0 || b != 0 || errno != api.ErrForm {
		t.Errorf("an event behind an exit: %d, %d, %v", a, b, errno)
	}
}

func TestLimit(t *testing.T) {
	children := programs(program(spawn(1), spawn(1), spawn(1)), program())
	full := make([]api.Op, api.MaxOps)
	for i := range full {
		full[i] = spawn(0)
	}
	var rising []int // each goroutine spawns 32, and does not exit
	for i := range api.MaxPlan {
		rising = append(rising, i/api.MaxOps)
	}
	for _, x := range []struct {
		name string
		s    api.Script
		want int
	}{
		{"no plan", script(programs(program(spawn(0))), nil), 1},
		{"no spawn", script(programs(program(read(0))), plan(0, compact, 0)), 1},
		{"one", script(children, plan(0)), 2},
		{"two", script(children, plan(0, 0)), 3},
		{"three", script(children, plan(0, 0, 0, 0)), 4},
		{"those that exited have tids", script(children, plan(0, 1, 0, 1, 0, 1)), 4},
		{"till they are forgotten", script(children, plan(0, 1, compact, 0, 1, compact, 0, 1)), 2},
		{"one of them", script(children, plan(0, 1, compact, 0, 1, 0, 1)), 3},
		{"who is gone at the end counts", script(children, plan(0, 0, 0, 1, 1, 1, compact)), 4},
		{"the first one goes", script(programs(program(spawn(1)), program(spawn(2)), program()), plan(0, 0, compact, 0)), 2},
		{"as many as a plan can", script(programs(full), rising), 201},
		{"a panic", script(programs(program(spawn(0), closes(0), spawn(0))), plan(0, 0, 0)), 2},
	} {
		for _, limits := range [][2]int{{256, 1 << 20}, {1, 1}, {0, 0}, {-5, math.MaxInt}, {math.MaxInt, math.MinInt}, {257, 1<<20 + 1}} {
			x.s.T, x.s.M = limits[0], limits[1]
			if n := verdict.Limit(x.s); n != x.want {
				t.Errorf("%s: %d, not %d, with %v", x.name, n, x.want, limits)
			}
			if x.s.T != limits[0] || x.s.M != limits[1] {
				t.Errorf("%s: it was changed", x.name)
			}
		}
	}
}

func TestLimitOfWhatIsNotRight(t *testing.T) {
	fine := programs(program(spawn(0)))
	for name, s := range map[string]api.Script{
		"nothing":         {},
		"no programs":     script(nil, plan(0)),
		"nine programs":   script(make([][]api.Op, 9), plan(0)),
		"33 operations":   script(programs(slices.Repeat(program(read(0)), 33)), plan(0)),
		"no operation":    script(programs(program(api.Op{})), plan(0)),
		"no such program": script(programs(program(spawn(1))), plan(0)),
		"no such cell":    script(programs(program(read(8))), plan(0)),
		"201 entries":     script(fine, make([]int, 201)),
		"no entry":        script(fine, plan(-2)),
		"too great a one": script(fine, plan(1001)),
		"65 draws":        script(fine, plan(0), make([]int, 65)...),
		"no draw":         script(fine, plan(0), -1),
	} {
		if n := verdict.Limit(s); n != 0 {
			t.Errorf("%s: %d", name, n)
		}
	}
}
