package verdict_test

import (
	"fmt"
	"math"
	"math/rand"
	"slices"
	"testing"

	"staithe/api"
	"staithe/axiom"
	"staithe/edge"
	"staithe/entry"
	"staithe/epoch"
	"staithe/gauge"
	"staithe/query"
	"staithe/remap"
	"staithe/report"
	"staithe/run"
	"staithe/stamp"
	"staithe/verdict"
)

// drawnOp is an operation of the first so many of 24; few names, so that goroutines meet.
func drawnOp(r *rand.Rand, programs, most int) api.Op {
	name, v := r.Intn(3), r.Intn(100)
	switch n := r.Intn(most); {
	case n < 3:
		return spawn(1 + r.Intn(programs-1))
	case n < 9:
		return api.Op{Kind: []int{api.OpRead, api.OpRead, api.OpWrite}[r.Intn(3)], A: []int{0, 1, 6, 7}[r.Intn(4)]}
	case n < 13:
		return send(name, v)
	case n < 18:
		return recv(name)
	case n < 19:
		return makes(name, r.Intn(5))
	case n < 20:
		return []api.Op{closes(name), exit(), exit()}[r.Intn(3)]
	}
	o := api.Op{Kind: api.OpSelect, Default: r.Intn(3) > 0}
	for range 1 + r.Intn(4) {
		c := api.Case{Send: r.Intn(2) == 0, Chan: r.Intn(3)}
		if c.Send {
			c.Value = r.Intn(100)
		}
		o.Cases = append(o.Cases, c)
	}
	return o
}

// drawn is a script whose goroutines are short, with many Compact entries, much room, and a plan of up to so many entries.
func drawn(r *rand.Rand, entries int) api.Script {
	s := api.Script{T: 256, M: 1 << 20, Programs: make([][]api.Op, 2+r.Intn(5))}
	most := []int{9, 13, 20, 24, 24}[r.Intn(5)]
	for name := range 3 {
		s.Programs[0] = append(s.Programs[0], makes(name, []int{0, 0, 1, 2, 4}[r.Intn(5)]))
	}
	for range 2 + r.Intn(8) {
		s.Programs[0] = append(s.Programs[0], spawn(1+r.Intn(len(s.Programs)-1)))
		if r.Intn(2) == 0 {
			s.Programs[0] = append(s.Programs[0], drawnOp(r, len(s.Programs), most))
		}
	}
	for i := 1; i < len(s.Programs); i++ {
		for range r.Intn(6) {
			s.Programs[i] = append(s.Programs[i], drawnOp(r, len(s.Programs), most))
		}
	}
	for range entries/4 + r.Intn(entries*3/4) {
		s.Plan = append(s.Plan, max(compact, r.Intn(10)-2))
	}
	for range r.Intn(20) {
		s.Draws = append(s.Draws, r.Intn(1001))
	}
	return s
}

// narrow gives a script little room.
func narrow(r *rand.Rand, s api.Script) api.Script {
	if r.Intn(3) > 0 {
		s.T = 1 + r.Intn(8)
	}
	if r.Intn(3) == 0 {
		s.M = 1 + r.Intn(12)
	}
	return s
}

func copied(x run.Result) run.Result {
	x.Log.Events, x.Log.Records, x.Races = slices.Clone(x.Log.Events), slices.Clone(x.Log.Records), slices.Clone(x.Races)
	x.Log.Stamps = slices.Clone(x.Log.Stamps)
	for i := range x.Log.Stamps {
		x.Log.Stamps[i].Clock = slices.Clone(x.Log.Stamps[i].Clock)
	}
	return x
}

// point is one of the document's: all its places that are not so.
type point func(l query.Log, races []report.Race) []int

// points are the five; each is asked of all places, by the chapter's words.
var points = []point{
	func(l query.Log, _ []report.Race) []int {
		n := len(l.Events)
		if rule, at := gauge.Check(l.Events); rule != 0 && !(rule == 4 && at == n) || n > 1024 || len(l.Stamps) != n {
			return []int{0}
		}
		return nil
	},
	func(l query.Log, _ []report.Race) []int {
		var wrong []int
		for i, e := range l.Events {
			want := epoch.None
			errno := api.OK
			if e.Kind != api.EvCompact {
				x, ok := query.Record(l, e.G)
				n, _ := axiom.Number(l.Events, i)
				if want, errno = epoch.Pack(x.Tid, n); !ok {
					errno = api.ErrNone
				}
			}
			if l.Stamps[i].Epoch != want || errno != api.OK {
				wrong = append(wrong, i)
			}
		}
		return wrong
	},
	func(l query.Log, _ []report.Race) []int {
		var wrong []int
		m, _ := axiom.Ahead(l.Events)
		for a, x := range l.Events {
			for b, y := range l.Events {
				if is, _ := query.Before(l, a, b); is != m.Has(a, b) && x.Kind != 13 && y.Kind != 13 && a != b {
					wrong = append(wrong, max(a, b))
				}
			}
		}
		return wrong
	},
	func(l query.Log, races []report.Race) []int {
		var wrong []int
		for i := range 8 {
			told := map[int]int{}
			for _, x := range races {
				if x.Cell == i {
					told[x.At]++
				}
			}
			at, is, _ := axiom.First(l.Events, i)
			if is && (len(told) != 1 || told[at] == 0) || !is && len(told) > 0 {
				wrong = append(wrong, i)
			}
		}
		return wrong
	},
	func(l query.Log, _ []report.Race) []int {
		var wrong []int
		places := map[int][]remap.Record{} // records that are gone at a Compact
		for _, x := range l.Records {
			switch {
			case x.Gone && x.Till >= 0 && x.Till < len(l.Events) && l.Events[x.Till].Kind == 13:
				places[x.Till] = append(places[x.Till], x)
			case x.Gone:
				wrong = append(wrong, len(l.Events))
			}
		}
		ahead := map[int]bool{}
		for at, e := range l.Events {
			if e.Kind != 13 {
				continue
			}
			for _, x := range places[at] {
				cut, is, errno := axiom.Settled(l.Events[:at], x.G)
				if !is || errno != api.OK || cut != x.Cut || ahead[x.G] {
					wrong = append(wrong, at)
				}
			}
			for g := range gauge.Goroutines(l.Events[:at]) {
				_, is, _ := axiom.Settled(l.Events[:at], g)
				gone := slices.ContainsFunc(places[at], func(x remap.Record) bool { return x.G == g })
				if is && !ahead[g] && !gone {
					wrong = append(wrong, at)
				}
				ahead[g] = ahead[g] || gone
			}
		}
		return wrong
	},
}

// expected is the least point that is not so, and its first place.
func expected(x run.Result) (int, int) {
	for i, p := range points {
		if wrong := p(x.Log, x.Races); len(wrong) > 0 {
			return i + 1, slices.Min(wrong)
		}
	}
	return 0, 0
}

// near is a number close to another one, or far away.
func near(r *rand.Rand, n int) int {
	far := []int{0, -1, 1, 2, 255, 256, 512, 1 << 20, math.MaxInt, math.MinInt}
	switch r.Intn(4) {
	case 0:
		return far[r.Intn(len(far))]
	case 1:
		return n - 1
	}
	return n + 1
}

// tamper does something to a part of a result that has it.
func tamper(r *rand.Rand, x *run.Result) {
	events, stamps, records, races := x.Log.Events, x.Log.Stamps, x.Log.Records, x.Races
	i := r.Intn(max(1, len(events)))
	k := r.Intn(max(1, len(records)))
	switch n := r.Intn(22); {
	case n < 1:
		e := &events[i]
		field := []*int{&e.Kind, &e.G, &e.Chan, &e.Case, &e.Value, &e.Mate}[r.Intn(6)]
		*field = near(r, *field)
	case n < 2:
		e := r.Intn(len(events)) // another cell, where both are accesses: a trace still
		if (events[e].Kind == 9 || events[e].Kind == 10) && r.Intn(2) == 0 {
			events[e].Value = []int{0, 1, 6, 7}[r.Intn(4)]
		} else if events[e].Kind == 9 || events[e].Kind == 10 {
			events[e].Kind = 19 - events[e].Kind
		}
	case n < 3:
		*x = shortened(*x, i)
	case n < 4:
		x.Log.Events, x.Log.Stamps = slices.Delete(events, i, i+1), slices.Delete(stamps, i, i+1)
	case n < 5:
		more := []epoch.Epoch{stamps[i].Epoch - 1, stamps[i].Epoch + 1, epoch.None, epoch.Tail, 7, stamps[r.Intn(len(stamps))].Epoch}
		stamps[i].Epoch = more[r.Intn(len(more))]
	case n < 9:
		if c := stamps[i].Clock; len(c) > 0 {
			tid := r.Intn(len(c))
			c[tid] = near(r, c[tid])
		}
	case n < 10:
		stamps[i].Clock = append(stamps[i].Clock[:r.Intn(len(stamps[i].Clock)+1)], r.Intn(3), r.Intn(3))
	case n < 11:
		x.Log.Stamps = append(stamps, stamp.Stamp{})
	case n < 12:
		x.Log.Records = slices.Delete(records, k, k+1)
	case n < 14:
		v := &records[k]
		field := []*int{&v.G, &v.Tid, &v.From, &v.Till, &v.Cut}[r.Intn(5)]
		*field = near(r, *field)
	case n < 16:
		records[k].Gone = !records[k].Gone
		if records[k].Gone && r.Intn(3) > 0 {
			records[k].Till = r.Intn(len(events) + 3)
		}
	case n < 17:
		records[k].Cut = near(r, records[k].Cut)
	case n < 18:
		records[k].Till = near(r, records[k].Till)
	case n < 19:
		v := remap.Record{G: r.Intn(12) - 1, Tid: r.Intn(3), From: r.Intn(10), Gone: r.Intn(2) == 0, Till: i, Cut: r.Intn(2)}
		x.Log.Records = slices.Insert(records, r.Intn(len(records)+1), v, records[k])[:len(records)+1+r.Intn(2)]
	case n < 20:
		x.Races = append(races, report.Race{Cell: r.Intn(10) - 1, At: i})
	case n < 21 && len(races) > 0:
		x.Races[r.Intn(len(races))].At = near(r, races[0].At)
	case len(races) > 0:
		v := &races[r.Intn(len(races))]
		field := []*int{&v.G, &v.With, &v.Cell, &v.Cell}[r.Intn(4)]
		*field = near(r, *field)
	}
}

// TestTamperedRuns: what is not so, and where, is what the words say of each place by itself; nothing is changed by asking.
func TestTamperedRuns(t *testing.T) {
	r := rand.New(rand.NewSource(281))
	seen := map[string]int{}
	for range 6000 {
		x := run.Run(narrow(r, drawn(r, 60)))
		for range 1 + r.Intn(2) {
			if len(x.Log.Events) > 0 && len(x.Log.Stamps) == len(x.Log.Events) && len(x.Log.Records) > 0 {
				tamper(r, &x)
			}
		}
		kept := copied(x)
		n, at := verdict.Of(x)
		if point, place := expected(x); n != point || at != place {
			t.Fatalf("%d at %d, not %d at %d: %v", n, at, point, place, x)
		}
		if fmt.Sprint(x) != fmt.Sprint(kept) {
			t.Fatalf("%v was %v", x, kept)
		}
		if again, place := verdict.Check(x.Log, x.Races); again != n || place != at {
			t.Fatalf("asked again: %d at %d, not %d at %d", again, place, n, at)
		}
		seen[fmt.Sprint(n)]++
		if n == 5 && at == len(x.Log.Events) {
			seen["elsewhere"]++
		}
	}
	for _, name := range []string{"0", "1", "2", "3", "4", "5", "elsewhere"} {
		if seen[name] < 60 {
			t.Errorf("%s: %d times: %v", name, seen[name], seen)
		}
	}
}

// TestAllRuns is 28.3.
func TestAllRuns(t *testing.T) {
	r := rand.New(rand.NewSource(282))
	verdicts, races, gone, again := [6]int{}, 0, 0, 0
	for i := range 1500 {
		entries := 60
		if i%10 == 0 {
			entries = 200
		}
		s := drawn(r, entries)
		if i%3 == 0 {
			s = narrow(r, s)
		}
		if i%7 == 0 {
			s.Programs[0][0].A = 8 // no such name
		}
		x := run.Run(s)
		is(t, "a run", x, 0, 0)
		verdicts[x.Verdict]++
		races += len(x.Races)
		for _, v := range x.Log.Records {
			if v.Gone {
				gone++
			}
		}
		if len(x.Log.Records) > run.Tids(x) {
			again++
		}
	}
	if slices.Min(verdicts[:]) < 20 || races < 300 || gone < 500 || again < 100 {
		t.Errorf("verdicts %v, races %d, gone %d, tids given again in %d", verdicts, races, gone, again)
	}
}

// TestPairsOfRuns: each pair is looked for by the edges that lead to it.
func TestPairsOfRuns(t *testing.T) {
	r := rand.New(rand.NewSource(283))
	for range 600 {
		x := run.Run(narrow(r, drawn(r, 80)))
		l := x.Log.Events
		edges, _ := edge.All(l)
		ahead := make([]map[int]bool, len(l))
		for i := range ahead {
			ahead[i] = map[int]bool{}
		}
		for _, e := range edges { // by their To: what is ahead of From is whole
			ahead[e.To][e.From] = true
			for k := range ahead[e.From] {
				ahead[e.To][k] = true
			}
		}
		ordered, free := 0, 0
		for a, x := range l {
			for b, y := range l {
				switch {
				case a >= b, x.G == y.G, x.G == -1, y.G == -1:
				case ahead[b][a] || ahead[a][b]:
					ordered++
				default:
					free++
				}
			}
		}
		if a, b, errno := verdict.Pairs(x.Log); a != ordered || b != free || errno != api.OK {
			t.Fatalf("%d, %d, %v, not %d, %d: %v", a, b, errno, ordered, free, l)
		}
	}
}

// TestLimitsOfScripts: with one tid less the run is saturated, with so many it is not.
func TestLimitsOfScripts(t *testing.T) {
	r := rand.New(rand.NewSource(284))
	least := map[int]int{}
	for range 800 {
		s := drawn(r, 100)
		s.T, s.M = r.Intn(300)-20, r.Intn(30)-10
		n := verdict.Limit(s)
		want := 0
		s.M = api.MaxClock
		for s.T = 1; s.T <= api.MaxTid; s.T++ {
			if run.Run(s).Verdict != api.Saturated {
				want = s.T
				break
			}
		}
		if n != want || n == 0 {
			t.Fatalf("%d, not %d: %v", n, want, s)
		}
		least[n]++
	}
	if len(least) < 6 {
		t.Errorf("%v", least)
	}
}

// TestAnyLogs: whatever is told, it ends; Pairs refuses just what point 1 does.
func TestAnyLogs(t *testing.T) {
	r := rand.New(rand.NewSource(285))
	odd := func() int { return near(r, r.Intn(6)) }
	for range 3000 {
		var x run.Result
		for range r.Intn(5) {
			e := entry.Bare(1+r.Intn(13), r.Intn(2))
			if r.Intn(3) == 0 {
				e = api.Event{Kind: odd(), G: odd(), Chan: odd(), Case: odd(), Value: odd(), Mate: odd(), Send: r.Intn(2) == 0, OK: r.Intn(2) == 0}
			}
			x.Log.Events = append(x.Log.Events, e)
			x.Log.Stamps = append(x.Log.Stamps, stamp.Stamp{Epoch: epoch.Epoch(odd()), Clock: []int{odd(), odd()}})
		}
		for range r.Intn(4) {
			x.Log.Records = append(x.Log.Records, remap.Record{G: odd(), Tid: odd(), From: odd(), Gone: r.Intn(2) == 0, Till: odd(), Cut: odd()})
			x.Races = append(x.Races, report.Race{Cell: odd(), At: odd(), G: odd(), With: odd()})
		}
		n, at := verdict.Of(x)
		if point, place := expected(x); n != point || at != place {
			t.Fatalf("%d at %d, not %d at %d: %v", n, at, point, place, x)
		}
		a, b, errno := verdict.Pairs(x.Log)
		if (errno != api.OK) != (n == 1) || errno != api.OK && (a != 0 || b != 0 || errno != api.ErrForm) {
			t.Fatalf("Pairs: %d, %d, %v: %v", a, b, errno, x)
		}
	}
}
