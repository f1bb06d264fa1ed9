package axiom_test

import (
	"math/rand"
	"testing"

	"staithe/api"
	"staithe/axiom"
	"staithe/query"
	"staithe/run"
)

// ordered holds the order, numbers and knowledge against stamps and records (P3).
func ordered(t *testing.T, log query.Log) {
	t.Helper()
	m, errno := axiom.Ahead(log.Events)
	if errno != api.OK {
		t.Fatal(errno)
	}
	for b, e := range log.Events {
		if e.Kind == api.EvCompact {
			continue
		}
		if n, errno := axiom.Number(log.Events, b); n != log.Stamps[b].Epoch.Clock() || errno != api.OK {
			t.Fatalf("Number(%d): %d, %v: %v", b, n, errno, log.Events)
		}
		for a, o := range log.Events {
			if o.Kind == api.EvCompact {
				continue
			}
			if is, errno := query.Before(log, a, b); is != m.Has(a, b) || errno != api.OK {
				t.Fatalf("%d before %d: %t, %v: %v", a, b, is, errno, log.Events)
			}
		}
	}
	b := len(log.Events) - 1
	for b > 0 && log.Events[b].Kind == api.EvCompact {
		b--
	}
	for _, x := range log.Records {
		n, errno := axiom.Knows(log.Events, b, x.G)
		if known, code := query.Known(log, b, x.G); log.Events[b].Kind != api.EvCompact && (n != known || errno != api.OK || code != api.OK) {
			t.Fatalf("Knows(%d, %d): %d, %v, not %d, %v: %v", b, x.G, n, errno, known, code, log.Events)
		}
	}
}

// forgotten holds who was retired at each Compact against who is settled ahead of it, and behind it (P5). Whoever is settled
// stays so, with the same cut, as long as somebody lives.
func forgotten(t *testing.T, r run.Result) int {
	t.Helper()
	n := 0
	for at, e := range r.Log.Events {
		if e.Kind != api.EvCompact {
			continue
		}
		for _, x := range r.Log.Records {
			if x.From >= at {
				continue
			}
			gone := x.Gone && x.Till <= at
			for _, end := range []int{at, at + 1} {
				cut, is, errno := axiom.Settled(r.Log.Events[:end], x.G)
				if errno != api.OK || is != gone || is && cut != x.Cut {
					t.Fatalf("%d at %d: %d, %t, %v, not %v: %v", x.G, at, cut, is, errno, x, r.Log.Events)
				}
			}
			if gone && x.Till == at {
				n++
			}
		}
	}
	return n
}

// raceful holds first races against the report's (P4).
func raceful(t *testing.T, r run.Result) int {
	t.Helper()
	places := map[int]int{}
	for _, x := range r.Races {
		places[x.Cell] = x.At
	}
	for cell := range api.Cells {
		at, is, errno := axiom.First(r.Log.Events, cell)
		if want, told := places[cell]; at != want || is != told || errno != api.OK {
			t.Fatalf("First(%d): %d, %t, %v, not %d, %t: %v", cell, at, is, errno, want, told, r.Log.Events)
		}
	}
	return len(places)
}

// TestInstruments: what clocks, records and cells tell of runs is what is told here without them.
func TestInstruments(t *testing.T) {
	r := rand.New(rand.NewSource(262))
	races, retired, verdicts := 0, 0, [6]int{}
	for range 900 {
		s := drawn(r, 90)
		if r.Intn(3) == 0 {
			s.T = 1 + r.Intn(8)
		}
		got := run.Run(s)
		verdicts[got.Verdict]++
		if len(got.Log.Events) == 0 {
			continue
		}
		ordered(t, got.Log)
		races += raceful(t, got)
		retired += forgotten(t, got)
	}
	if races < 100 || retired < 100 || verdicts[api.Saturated] < 10 || verdicts[api.Spent] < 10 {
		t.Errorf("%d races, %d retired, verdicts %v", races, retired, verdicts)
	}
}
