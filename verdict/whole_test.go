package verdict_test

import (
	"fmt"
	"math/rand"
	"slices"
	"testing"

	"staithe/api"
	"staithe/axiom"
	"staithe/cell"
	"staithe/edge"
	"staithe/gauge"
	"staithe/loom"
	"staithe/query"
	"staithe/report"
	"staithe/run"
	"staithe/sheet"
	"staithe/verdict"
)

// oneVerdict is P1 of a text: Malformed and nothing, just if it is no script; else a trace that keeps all rules, and one verdict.
func oneVerdict(t *testing.T, b string) run.Result {
	t.Helper()
	x := run.Bytes(b)
	_, errno := sheet.Decode(b)
	if (errno != api.OK) != (x.Verdict == api.Malformed) || x.Verdict < api.Malformed || x.Verdict > api.Saturated {
		t.Fatalf("%q: %d, %v", b, x.Verdict, errno)
	}
	if x.Verdict == api.Malformed && len(x.Log.Events)+len(x.Log.Stamps)+len(x.Log.Records)+len(x.Races) > 0 {
		t.Fatalf("%q: %v", b, x)
	}
	if rule, at := gauge.Check(x.Log.Events); rule != 0 {
		t.Fatalf("%q: rule %d at %d", b, rule, at)
	}
	is(t, "a text", x, 0, 0)
	return x
}

// TestOneVerdict is P1.
func TestOneVerdict(t *testing.T) {
	for a := range 256 {
		oneVerdict(t, string([]byte{byte(a)}))
		oneVerdict(t, string([]byte{byte(a), 1, 1, 1, 9, 2, 1, 0, 0}))
		oneVerdict(t, string([]byte{2, 9, 1, 1, byte(a), 2, 1, 0, 0}))
	}
	if oneVerdict(t, "").Verdict != api.Malformed {
		t.Error("nothing")
	}
	r := rand.New(rand.NewSource(287))
	var verdicts [6]int
	for range 4000 {
		b, errno := sheet.Encode(narrow(r, drawn(r, 40)))
		if errno != api.OK {
			t.Fatal(errno)
		}
		l := []byte(b)
		for range r.Intn(3) {
			l[r.Intn(len(l))] = byte(r.Intn(256))
		}
		if r.Intn(8) == 0 {
			l = append(l, byte(r.Intn(256))) // the document's tenth example
		}
		verdicts[oneVerdict(t, string(l)).Verdict]++
	}
	if slices.Min(verdicts[:]) < 15 {
		t.Errorf("%v", verdicts)
	}
}

// TestKnowledge is P3's second half: without Compact entries, at each other goroutine, the greatest of its numbers ahead.
func TestKnowledge(t *testing.T) {
	r := rand.New(rand.NewSource(288))
	known := map[bool]int{}
	for range 120 {
		log := run.Run(sheet.Bare(drawn(r, 50))).Log
		for i, e := range log.Events {
			for _, x := range log.Records {
				n := 0
				if c := log.Stamps[i].Clock; x.Tid < len(c) {
					n = c[x.Tid]
				}
				want, errno := axiom.Knows(log.Events, i, x.G)
				if n != want || errno != api.OK {
					t.Fatalf("%d of %d: %d, not %d, %v: %v", i, x.G, n, want, errno, log.Events)
				}
				if x.G != e.G {
					known[n > 0]++
				}
			}
		}
	}
	if known[true] < 1000 || known[false] < 1000 {
		t.Errorf("%v", known)
	}
}

// TestRacesOfRuns is P4: each pair of accesses is asked.
func TestRacesOfRuns(t *testing.T) {
	r := rand.New(rand.NewSource(289))
	races := 0
	for i := range 500 {
		s := drawn(r, 80)
		if i%4 == 0 {
			s = narrow(r, s)
		}
		x := run.Run(s)
		l := x.Log.Events
		ahead, errno := axiom.Ahead(l)
		if errno != api.OK {
			t.Fatal(errno)
		}
		var places [api.Cells]int // of first races, and 1
		for b, y := range l {
			for a, x := range l[:b] {
				accesses := (x.Kind == 9 || x.Kind == 10) && (y.Kind == 9 || y.Kind == 10) && x.Value == y.Value
				if accesses && x.Kind+y.Kind > 18 && x.G != y.G && !ahead.Has(a, b) && places[y.Value] == 0 {
					places[y.Value] = b + 1
				}
			}
		}
		var told [api.Cells]int
		for _, v := range x.Races {
			told[v.Cell] = v.At + 1
			if e := l[v.At]; e.G != v.G || (e.Kind == api.EvWrite) != v.Write || e.Value != v.Cell {
				t.Fatalf("%v: %v", v, e)
			}
			races++
		}
		if told != places {
			t.Fatalf("%v, not %v: %v", told, places, l)
		}
	}
	if races < 150 {
		t.Errorf("%d races", races)
	}
}

// bare are the events that are no Compact, and of each place how many of them stand ahead of it.
func bare(l []api.Event) ([]api.Event, []int) {
	var events []api.Event
	var places []int
	for _, e := range l {
		places = append(places, len(events))
		if e.Kind != api.EvCompact {
			events = append(events, e)
		}
	}
	return events, places
}

// TestCompactChangesNothingElse is P5: the trace without Compact entries is the bare script's, its order too, as far as that
// has room; and whoever is retired exited and is settled there, by the order alone.
func TestCompactChangesNothingElse(t *testing.T) {
	r := rand.New(rand.NewSource(290))
	gone, less := 0, 0
	for i := range 1500 {
		s := drawn(r, 80)
		if i%2 == 0 {
			s = narrow(r, s)
		}
		with, without := run.Run(s), run.Run(sheet.Bare(s))
		events, places := bare(with.Log.Events)
		n := len(without.Log.Events)
		if n > len(events) || !slices.Equal(without.Log.Events, events[:n]) || n < len(events) && without.Verdict != api.Saturated {
			t.Fatalf("%v, not %v", without.Log.Events, events)
		}
		if without.Verdict != api.Saturated && with.Verdict != without.Verdict {
			t.Fatalf("%d, not %d", with.Verdict, without.Verdict)
		}
		if n < len(events) {
			less++
		}
		for at, e := range with.Log.Events {
			for _, g := range run.Retired(with, at) {
				_, is, errno := axiom.Settled(without.Log.Events[:min(n, places[at])], g)
				if e.Kind != api.EvCompact || places[at] <= n && (!is || errno != api.OK) {
					t.Fatalf("%d at %d: %v", g, at, with.Log.Events)
				}
				gone++
			}
		}
	}
	if gone < 300 || less < 20 {
		t.Errorf("%d gone, %d with less without Compact", gone, less)
	}
}

// steps are the places at which a script's steps begin, by its path without limits.
func steps(t *testing.T, s api.Script) []int {
	t.Helper()
	l, errno := loom.New(s)
	if errno != api.OK {
		t.Fatal(errno)
	}
	var places []int
	for at := 0; l.Verdict() == 0; {
		places = append(places, at)
		at += len(l.Step())
	}
	return places
}

// TestNoRoom is P6: the first step, of the path without limits, that spawns while T tids are in use or tells at clock M is
// where the run stops; if there is none, it is not Saturated.
func TestNoRoom(t *testing.T) {
	r := rand.New(rand.NewSource(291))
	why := map[string]int{}
	for range 1500 {
		s := narrow(r, drawn(r, 70))
		free := s
		free.T, free.M = api.MaxTid, api.MaxClock
		path := run.Run(free)
		if path.Verdict == api.Saturated {
			t.Fatalf("%v", free)
		}
		length, reason := len(path.Log.Events), ""
		for _, at := range steps(t, s) {
			e := path.Log.Events[at]
			used := 0
			for _, x := range path.Log.Records {
				if x.From < at && (!x.Gone || x.Till >= at) {
					used++
				}
			}
			number := 0
			if e.Kind != api.EvCompact {
				number, _ = axiom.Number(path.Log.Events, at)
			}
			if e.Kind == api.EvSpawn && used >= s.T {
				reason = "a tid"
			} else if edge.Tells(e) && number >= s.M {
				reason = "a clock"
			}
			if reason != "" {
				length = at
				break
			}
		}
		x := run.Run(s)
		if (x.Verdict == api.Saturated) != (reason != "") || !slices.Equal(x.Log.Events, path.Log.Events[:length]) {
			t.Fatalf("%d behind %d, not %q behind %d: %v", x.Verdict, len(x.Log.Events), reason, length, s)
		}
		if reason == "" && x.Verdict != path.Verdict {
			t.Fatalf("%d, not %d: %v", x.Verdict, path.Verdict, s)
		}
		if x.Verdict != api.Saturated && verdict.Limit(s) > s.T || reason == "a tid" && verdict.Limit(s) <= s.T {
			t.Fatalf("Limit: %d, of %d: %v", verdict.Limit(s), s.T, s)
		}
		why[reason]++
	}
	if why["a tid"] < 100 || why["a clock"] < 100 || why[""] < 100 {
		t.Errorf("%v", why)
	}
}

// told is a run as text: its kinds of events, each with its goroutine.
func told(x run.Result) string {
	words := []string{"", "spawn", "make", "send", "recv", "close", "park", "wake", "default", "read", "write", "exit", "panic", "compact"}
	text := ""
	for _, e := range x.Log.Events {
		text += fmt.Sprintf("%s%d ", words[e.Kind], e.G)
	}
	return text + []string{"Malformed", "AllExited", "Deadlock", "Panicked", "Spent", "Saturated"}[x.Verdict]
}

// example runs one of the document's, which must be told so.
func example(t *testing.T, s api.Script, want string) run.Result {
	t.Helper()
	x := run.Run(s)
	if got := told(x); got != want {
		t.Errorf("%q, not %q", got, want)
	}
	is(t, want, x, 0, 0)
	return x
}

func knows(t *testing.T, x run.Result, b, g, want int) {
	t.Helper()
	if n, errno := query.Known(x.Log, b, g); n != want || errno != api.OK {
		t.Errorf("%d of %d: %d, %v, not %d", b, g, n, errno, want)
	}
}

// TestExamplesOfTheWhole goes through the document's; the tenth is of bytes (TestOneVerdict, too).
func TestExamplesOfTheWhole(t *testing.T) {
	x := example(t, script(programs(program(makes(0, 0), spawn(1), recv(0), read(0)), program(send(0, 5), read(0))), plan(0, 0, 0, 1, 0, 0)),
		"make0 spawn0 park0 send1 wake0 read0 exit0 Spent")
	knows(t, x, 3, 0, 2) // 1: the park
	knows(t, x, 4, 1, 1) // 2: the send
	x = example(t, script(programs(program(makes(0, 1), spawn(1), send(0, 5), send(0, 6)), program(recv(0))), plan(0, 0, 0, 1, 0)),
		"make0 spawn0 send0 recv1 send0 Spent")
	knows(t, x, 4, 1, 1)
	choose := api.Op{Kind: api.OpSelect, Cases: []api.Case{{Chan: 0}, {Chan: 1}}}
	for draw := range 2 {
		x = example(t, script(programs(program(makes(0, 1), makes(1, 1), send(0, 5), send(1, 6), choose)), plan(0, 0, 0, 0, 0), draw),
			"make0 make0 send0 send0 recv0 Spent")
		if e := x.Log.Events[4]; e.Case != draw || e.Value != 5+draw {
			t.Errorf("drawn %d: %v", draw, e)
		}
	}
	x = example(t, script(programs(program(makes(0, 0), spawn(1), read(0), closes(0)), program(recv(0))), plan(0, 0, 0, 0, 1)),
		"make0 spawn0 read0 close0 recv1 Spent")
	knows(t, x, 4, 0, 2)
	if x.Log.Events[4].OK {
		t.Errorf("%v", x.Log.Events[4])
	}
	x = example(t, script(programs(program(spawn(1), write(3)), program(read(3))), plan(0, 0, 1)), "spawn0 write0 read1 Spent")
	if want := (report.Race{Cell: 3, At: 2, G: 1, With: cell.Wrote}); !slices.Equal(x.Races, []report.Race{want}) {
		t.Errorf("%v", x.Races)
	}
	x = example(t, script(programs(program(makes(0, 1), spawn(1), write(3), send(0, 5)), program(recv(0), read(3))), plan(0, 0, 0, 0, 1, 1)),
		"make0 spawn0 write0 send0 recv1 read1 Spent")
	if len(x.Races) > 0 {
		t.Errorf("%v", x.Races)
	}
}

// TestExamplesOfTheForgotten are the document's seventh to ninth.
func TestExamplesOfTheForgotten(t *testing.T) {
	lonely := programs(program(spawn(1), spawn(1), read(3)), program(write(3)))
	x := example(t, script(lonely, plan(0, 1, 1, compact, 0, 0)), "spawn0 write1 exit1 compact-1 spawn0 read0 Spent")
	if v := x.Log.Records[1]; !v.Gone || v.Till != 3 || v.Cut != 0 || x.Log.Records[2].Tid != v.Tid {
		t.Errorf("%v", x.Log.Records)
	}
	if len(x.Races) != 1 || x.Races[0].At != 5 || x.Races[0].G != 0 {
		t.Errorf("%v", x.Races)
	}
	x = example(t, script(lonely, plan(0, 1, 1, compact, 0, 1)), "spawn0 write1 exit1 compact-1 spawn0 write2 Spent")
	if len(x.Races) != 1 || x.Races[0].At != 5 || x.Races[0].G != 2 {
		t.Errorf("%v", x.Races)
	}
	x = example(t, script(lonely, plan(0, 1, compact, 1, compact)), "spawn0 write1 compact-1 exit1 compact-1 Spent")
	if len(x.Races) != 0 {
		t.Errorf("%v", x.Races)
	}
	s := script(programs(program(spawn(1), spawn(1), spawn(1)), program()), plan(0, 1, compact, 0, 1, compact, 0, 1, 0))
	s.T = 2
	example(t, s, "spawn0 exit1 compact-1 spawn0 exit2 compact-1 spawn0 exit3 exit0 AllExited")
	example(t, sheet.Bare(s), "spawn0 exit1 Saturated")
	b, _ := sheet.Encode(s)
	if v := run.Bytes(b).Verdict; v != api.AllExited {
		t.Errorf("%d", v)
	}
	if v := run.Bytes(b + "\x00").Verdict; v != api.Malformed {
		t.Errorf("a byte too many: %d", v)
	}
}
