package run_test

import (
	"math/rand"
	"slices"
	"testing"

	"staithe/api"
	"staithe/cell"
	"staithe/query"
	"staithe/run"
	"staithe/sheet"
)

// drawnOp is an operation; few names, so that goroutines meet, and many exits, so that some are forgotten.
func drawnOp(r *rand.Rand, programs int) api.Op {
	name, v := r.Intn(3), r.Intn(100)
	switch n := r.Intn(24); {
	case n < 3:
		return api.Op{Kind: api.OpSpawn, A: 1 + r.Intn(programs-1)}
	case n < 9:
		return api.Op{Kind: []int{api.OpRead, api.OpRead, api.OpWrite}[r.Intn(3)], A: []int{0, 1, 6, 7}[r.Intn(4)]}
	case n < 13:
		return api.Op{Kind: api.OpSend, A: name, B: v}
	case n < 18:
		return api.Op{Kind: api.OpRecv, A: name}
	case n < 19:
		return api.Op{Kind: api.OpMake, A: name, B: r.Intn(5)}
	case n < 20:
		return []api.Op{{Kind: api.OpClose, A: name}, {Kind: api.OpExit}, {Kind: api.OpExit}}[r.Intn(3)]
	}
	o := api.Op{Kind: api.OpSelect, Default: r.Intn(3) > 0}
	for range 1 + r.Intn(4) {
		c := api.Case{Send: r.Intn(2) == 0, Chan: r.Intn(3)}
		if c.Send {
			c.Value = r.Intn(100)
		}
		o.Cases = append(o.Cases, c)
	}
	return o
}

// drawn is a script whose goroutines are short, with many Compact entries, and much room.
func drawn(r *rand.Rand) api.Script {
	s := api.Script{T: 256, M: 1 << 20, Programs: make([][]api.Op, 2+r.Intn(5))}
	for name := range 3 {
		s.Programs[0] = append(s.Programs[0], api.Op{Kind: api.OpMake, A: name, B: []int{0, 0, 1, 2, 4}[r.Intn(5)]})
	}
	for range 2 + r.Intn(8) {
		s.Programs[0] = append(s.Programs[0], api.Op{Kind: api.OpSpawn, A: 1 + r.Intn(len(s.Programs)-1)})
		if r.Intn(2) == 0 {
			s.Programs[0] = append(s.Programs[0], drawnOp(r, len(s.Programs)))
		}
	}
	for i := 1; i < len(s.Programs); i++ {
		for range r.Intn(6) {
			s.Programs[i] = append(s.Programs[i], drawnOp(r, len(s.Programs)))
		}
	}
	for range 20 + r.Intn(100) {
		s.Plan = append(s.Plan, max(api.Compact, r.Intn(10)-2))
	}
	for range r.Intn(20) {
		s.Draws = append(s.Draws, r.Intn(1001))
	}
	return s
}

// narrow gives a script little room.
func narrow(r *rand.Rand, s api.Script) api.Script {
	if r.Intn(3) > 0 {
		s.T = 1 + r.Intn(8)
	}
	if r.Intn(3) == 0 {
		s.M = 1 + r.Intn(12)
	}
	return s
}

// agrees holds a whole run against the model.
func agrees(t *testing.T, s api.Script) (run.Result, *model) {
	t.Helper()
	m, got := modelOf(t, s), run.Run(s)
	if got.Verdict != m.verdict || !slices.Equal(got.Log.Events, m.trace[:m.length]) {
		t.Fatalf("%d behind %d events, not %d behind %d: %v", got.Verdict, len(got.Log.Events), m.verdict, m.length, s)
	}
	if !slices.Equal(got.Log.Records, m.records) {
		t.Fatalf("%v, not %v: %v", got.Log.Records, m.records, s)
	}
	if want := m.races(m.length); !slices.Equal(got.Races, want) {
		t.Fatalf("%v, not %v: %v", got.Races, want, s)
	}
	if len(got.Log.Stamps) != m.length {
		t.Fatalf("%d stamps of %d events", len(got.Log.Stamps), m.length)
	}
	for i, e := range got.Log.Events {
		x := got.Log.Stamps[i]
		if e.Kind == api.EvCompact {
			if x.Epoch != 0 || len(x.Clock) != 0 {
				t.Fatalf("%d: %v: %v", i, x, s)
			}
			continue
		}
		if x.Epoch.Tid() != m.records[e.G].Tid || x.Epoch.Clock() != m.numbers[i] || !slices.Equal(x.Clock, m.clock(i)) {
			t.Fatalf("%d: %v, tid %d at %d, not %v, tid %d at %d: %v", i, x.Clock, x.Epoch.Tid(), x.Epoch.Clock(), m.clock(i), m.records[e.G].Tid, m.numbers[i], s)
		}
	}
	return got, m
}

// fits tells what 23.3 says: at no place more than T have a tid, and no clock is above M.
func fits(t *testing.T, s api.Script, r run.Result) {
	t.Helper()
	for at := -1; at < len(r.Log.Events); at++ {
		n := 0
		for _, x := range r.Log.Records {
			if x.From <= at && (!x.Gone || x.Till > at) {
				n++
			}
		}
		if n > s.T {
			t.Fatalf("%d have a tid behind %d, of %d", n, at, s.T)
		}
	}
	for i, x := range r.Log.Stamps {
		if x.Epoch.Clock() > s.M || x.Epoch.Tid() >= s.T || len(x.Clock) > s.T || len(x.Clock) > 0 && slices.Max(x.Clock) > s.M {
			t.Fatalf("%d: %v, of %d tids and clocks up to %d", i, x, s.T, s.M)
		}
	}
	if n := run.Tids(r); n > s.T || n < 1 {
		t.Fatalf("%d tids of %d", n, s.T)
	}
}

// ordered holds Before of all pairs against what is ahead (P3).
func ordered(t *testing.T, r run.Result, m *model) {
	t.Helper()
	for b, e := range r.Log.Events {
		for a, o := range r.Log.Events {
			if e.Kind == api.EvCompact || o.Kind == api.EvCompact {
				continue
			}
			if is, errno := query.Before(r.Log, a, b); is != m.ahead[b][a] || errno != api.OK {
				t.Fatalf("Before(%d, %d): %t, %v: %v", a, b, is, errno, r.Log.Events)
			}
		}
		for _, x := range r.Log.Records {
			if e.Kind == api.EvCompact {
				continue
			}
			if n, errno := query.Known(r.Log, b, x.G); n != m.knows(b, x.G) || errno != api.OK {
				t.Fatalf("Known(%d, %d): %d, %v, not %d: %v", b, x.G, n, errno, m.knows(b, x.G), r.Log.Events)
			}
		}
	}
}

// TestRunsAreTheModels: with little room and with much, the whole result is what the steps and the memory model say.
func TestRunsAreTheModels(t *testing.T) {
	r := rand.New(rand.NewSource(23))
	verdicts, wants, with := [6]int{}, map[string]int{}, [3]int{}
	retired, cuts, again := 0, 0, 0
	for range 2500 {
		s := narrow(r, drawn(r))
		got, m := agrees(t, s)
		fits(t, s, got)
		verdicts[got.Verdict]++
		wants[m.want]++
		for _, x := range got.Races {
			with[x.With]++
		}
		for _, x := range got.Log.Records {
			if x.Gone {
				retired++
			}
			if x.Cut > 0 {
				cuts++
			}
		}
		if len(got.Log.Records) > run.Tids(got) {
			again++
		}
	}
	for v := api.AllExited; v <= api.Saturated; v++ {
		if verdicts[v] < 20 {
			t.Errorf("verdicts: %v", verdicts)
		}
	}
	if wants["a tid"] < 100 || wants["a clock"] < 100 || with[cell.Wrote] < 100 || with[cell.Read] < 50 || retired < 500 || cuts < 100 || again < 100 {
		t.Errorf("saturated for want of: %v; races: %v; retired: %d, with cuts above 0: %d; runs with tids given again: %d", wants, with, retired, cuts, again)
	}
}

func TestOrderOfRuns(t *testing.T) {
	r := rand.New(rand.NewSource(231))
	for range 150 {
		got, m := agrees(t, narrow(r, drawn(r)))
		ordered(t, got, m)
	}
}

// TestCompactChangesNothingElse: without its Compact entries a script's trace is the same, and has the same races, as far as
// there is room (P5).
func TestCompactChangesNothingElse(t *testing.T) {
	r := rand.New(rand.NewSource(232))
	retired, shorter := 0, 0
	for range 300 {
		s := drawn(r)
		with, without := run.Run(s), run.Run(sheet.Bare(s))
		places := map[int]int{} // of events of the bare script, by their places beside Compact
		var events []api.Event
		for i, e := range with.Log.Events {
			if e.Kind != api.EvCompact {
				places[i] = len(events)
				events = append(events, e)
			}
		}
		for i, x := range with.Races {
			with.Races[i].At = places[x.At]
		}
		if with.Verdict != without.Verdict || !slices.Equal(events, without.Log.Events) || !slices.Equal(with.Races, without.Races) {
			t.Fatalf("%v, not %v", with, without)
		}
		s.T = run.Tids(with)
		if again := run.Run(s); again.Verdict != with.Verdict || !slices.Equal(again.Log.Events, with.Log.Events) {
			t.Fatalf("with %d tids: %v", s.T, again)
		}
		bare := run.Run(sheet.Bare(s))
		if n := len(bare.Log.Events); n > len(events) || !slices.Equal(bare.Log.Events, events[:n]) || (bare.Verdict == api.Saturated) != (n < len(events)) {
			t.Fatalf("%v, not %v", bare.Log.Events, events)
		}
		for _, x := range with.Log.Records {
			if x.Gone {
				retired++
			}
		}
		if len(bare.Log.Events) < len(events) {
			shorter++
		}
	}
	if retired < 100 || shorter < 20 {
		t.Errorf("retired: %d, shorter without Compact: %d", retired, shorter)
	}
}

// TestRetiredAtAllPlaces: together they are all records that are gone, each at a Compact.
func TestRetiredAtAllPlaces(t *testing.T) {
	r := rand.New(rand.NewSource(233))
	several := 0
	for range 300 {
		got := run.Run(drawn(r))
		gone := 0
		for at := -2; at <= len(got.Log.Events)+1; at++ {
			l := run.Retired(got, at)
			gone += len(l)
			if len(l) > 0 && got.Log.Events[at].Kind != api.EvCompact {
				t.Fatalf("%v retired at %d: %v", l, at, got.Log.Events[at])
			}
			for i, g := range l {
				if x := got.Log.Records[g]; !x.Gone || x.Till != at || i > 0 && l[i-1] >= g {
					t.Fatalf("Retired(%d): %v: %v", at, l, got.Log.Records)
				}
			}
			if len(l) > 1 {
				several++
			}
		}
		for _, x := range got.Log.Records {
			if x.Gone {
				gone--
			}
		}
		if gone != 0 {
			t.Fatalf("%d more are retired than gone", gone)
		}
	}
	if several < 20 {
		t.Errorf("several at one place: %d times", several)
	}
}

// TestBytesOfAnyKind: each text has one verdict; that of a script is its run's.
func TestBytesOfAnyKind(t *testing.T) {
	r := rand.New(rand.NewSource(234))
	right := 0
	for range 3000 {
		b, errno := sheet.Encode(narrow(r, drawn(r)))
		if errno != api.OK {
			t.Fatal(errno)
		}
		l := []byte(b)
		for range r.Intn(3) {
			l[r.Intn(len(l))] = byte(r.Intn(256))
		}
		got := run.Bytes(string(l))
		s, errno := sheet.Decode(string(l))
		if errno != api.OK {
			malformed(t, string(l), got)
			continue
		}
		right++
		if !equal(got, run.Run(s)) || got.Verdict < api.AllExited || got.Verdict > api.Saturated {
			t.Fatalf("%q: %v", l, got)
		}
	}
	if right < 500 {
		t.Errorf("%d are right", right)
	}
}
