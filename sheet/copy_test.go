package sheet_test

import (
	"slices"
	"testing"

	"staithe/api"
	"staithe/sheet"
)

const mark = 77 // of what was overwritten: no script here has it

// part is one list of a script.
type part struct {
	spoil  func()      // overwrites it, with all of its spare room
	spoilt func() bool // tells whether it was overwritten
}

func partOf[E any](l []E, with E, marked func(E) bool) part {
	return part{
		func() {
			room := l[:cap(l)]
			for i := range room {
				room[i] = with
			}
		},
		func() bool { return slices.ContainsFunc(l, marked) },
	}
}

func parts(s api.Script) []part {
	number := func(n int) bool { return n == mark }
	program := func(p []api.Op) bool { return len(p) == mark }
	op := func(o api.Op) bool { return o.Kind == mark }
	chosen := func(c api.Case) bool { return c.Chan == mark }
	l := []part{
		partOf(s.Programs, make([]api.Op, mark), program),
		partOf(s.Plan, mark, number),
		partOf(s.Draws, mark, number),
	}
	for _, p := range s.Programs {
		l = append(l, partOf(p, api.Op{Kind: mark}, op))
		for _, o := range p {
			l = append(l, partOf(o.Cases, api.Case{Chan: mark}, chosen))
		}
	}
	return l
}

// roomy is a script whose lists lie in the midst of others' memory, and some in one another's.
func roomy() api.Script {
	numbers := []int{api.Compact, 3, api.Compact, 1000, 5, 6, api.Compact, 8}
	cases := []api.Case{{Chan: 1}, {Send: true, Chan: 2, Value: 5}, {Chan: 3}, {Chan: 4}}
	ops := []api.Op{
		{Kind: api.OpSelect, Cases: cases[:2]}, {Kind: api.OpSend, A: 1, B: 9}, {Kind: api.OpSelect, Default: true, Cases: cases[1:3]},
		{Kind: api.OpExit}, {Kind: api.OpRecv, A: 7},
	}
	programs := [][]api.Op{ops[:3], ops[1:4], ops[:3], ops[:0], nil, ops[2:]}
	return api.Script{T: 4, M: 50, Programs: programs[:5], Plan: numbers[:4], Draws: numbers[3:6]}
}

var copiers = map[string]struct {
	do   func(api.Script) api.Script
	plan []int
}{
	"Copy": {sheet.Copy, []int{api.Compact, 3, api.Compact, 1000}},
	"Bare": {sheet.Bare, []int{3, 1000}},
}

func TestCopyAndBareTellTheSame(t *testing.T) {
	right(t, "roomy", roomy())
	for name, c := range copiers {
		want := roomy()
		want.Plan = c.plan
		if got := c.do(roomy()); !same(got, want) {
			t.Errorf("%s: %v", name, got)
		}
	}
}

// A copy's list is changed: neither what it was copied of, nor its memory around, nor another copy sees it.
func TestChangedCopies(t *testing.T) {
	for name, c := range copiers {
		for i := range parts(c.do(roomy())) {
			s := roomy()
			first, second := c.do(s), c.do(s)
			want := c.do(roomy())
			parts(first)[i].spoil()
			if !same(s, roomy()) || !same(second, want) {
				t.Errorf("%s, list %d: %v, %v", name, i, s, second)
			}
			if !slices.Equal(s.Plan[:cap(s.Plan)], []int{api.Compact, 3, api.Compact, 1000, 5, 6, api.Compact, 8}) {
				t.Errorf("%s, list %d: the spare room is %v", name, i, s.Plan[:cap(s.Plan)])
			}
		}
	}
}

// What was copied is changed: its copy does not see it.
func TestChangedScripts(t *testing.T) {
	for name, c := range copiers {
		for i := range parts(roomy()) {
			s := roomy()
			got := c.do(s)
			parts(s)[i].spoil()
			if want := c.do(roomy()); !same(got, want) {
				t.Errorf("%s, list %d: %v", name, i, got)
			}
		}
	}
}

// No two lists of one answer share memory, be they one list in what was copied.
func TestListsOfOneAnswerShareNothing(t *testing.T) {
	answers := map[string]func() api.Script{
		"Copy":   func() api.Script { return sheet.Copy(roomy()) },
		"Bare":   func() api.Script { return sheet.Bare(roomy()) },
		"Decode": func() api.Script { s, _ := sheet.Decode(told(roomy())); return s },
	}
	for name, answer := range answers {
		for i := range parts(answer()) {
			l := parts(answer())
			l[i].spoil()
			for k := range l {
				if k != i && l[k].spoilt() {
					t.Errorf("%s: list %d shares with list %d", name, k, i)
				}
			}
		}
	}
}

func TestCopyOfWhatIsNotRight(t *testing.T) {
	s := api.Script{T: -1, M: 1 << 40, Programs: make([][]api.Op, 300), Plan: make([]int, 1000), Draws: []int{-7, 5000}}
	s.Programs[299] = make([]api.Op, 50)
	s.Programs[299][49] = api.Op{Kind: 99, Cases: make([]api.Case, 9)}
	s.Plan[999] = -2
	if got := sheet.Copy(s); !same(got, s) {
		t.Errorf("Copy: %.200v", got)
	}
	if got := sheet.Bare(s); !same(got, s) {
		t.Errorf("Bare: %.200v", got)
	}
	if got := sheet.Copy(api.Script{}); !same(got, api.Script{}) {
		t.Errorf("Copy of nothing: %v", got)
	}
	if got := sheet.Bare(api.Script{}); !same(got, api.Script{}) {
		t.Errorf("Bare of nothing: %v", got)
	}
}

func TestBarePlans(t *testing.T) {
	const c = api.Compact
	for _, x := range []struct{ plan, want []int }{
		{nil, nil}, {[]int{}, nil}, {[]int{c}, nil}, {[]int{c, c, c}, nil}, {slices.Repeat([]int{c}, 200), nil},
		{[]int{0}, []int{0}}, {[]int{c, 0}, []int{0}}, {[]int{0, c}, []int{0}}, {[]int{5, c, c, 4, c, 3}, []int{5, 4, 3}},
		{[]int{1, 1000, 0, 1}, []int{1, 1000, 0, 1}}, {[]int{-2, c, -3}, []int{-2, -3}},
	} {
		s := script()
		s.Plan = slices.Clone(x.plan)
		got := sheet.Bare(s)
		want := script()
		want.Plan = x.want
		if !same(got, want) {
			t.Errorf("Bare of %v: %v", x.plan, got)
		}
		if !slices.Equal(s.Plan, x.plan) {
			t.Errorf("Bare of %v has left %v", x.plan, s.Plan)
		}
	}
}

func TestCheckAndEncodeLeaveTheirScript(t *testing.T) {
	s := roomy()
	sheet.Check(s)
	sheet.Encode(s)
	all := roomy()
	if !same(s, all) || !slices.Equal(s.Plan[:cap(s.Plan)], all.Plan[:cap(all.Plan)]) {
		t.Errorf("changed: %v", s)
	}
}

func TestDecodeAnswersNewMemory(t *testing.T) {
	b := told(script())
	for i := range parts(script()) {
		first, _ := sheet.Decode(b)
		second, _ := sheet.Decode(b)
		parts(first)[i].spoil()
		if !same(second, script()) {
			t.Errorf("list %d: %v", i, second)
		}
	}
}
