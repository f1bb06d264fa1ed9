package deed_test

import (
	"math"
	"math/rand"
	"slices"
	"strings"
	"testing"

	"staithe/api"
	"staithe/deed"
	"staithe/reel"
)

const (
	spawn = 1 + iota
	make_
	send
	recv
	close_
	select_
	read
	write
	exit
)

var ints = []int{math.MinInt, -100, -1, 0, 1, 2, 3, 4, 5, 7, 8, 9, 98, 99, 100, 239, 240, 256, 1 << 40, 1<<40 + 1, math.MaxInt}

// right is the document's table, row by row.
func right(o api.Op, programs int) bool {
	row := map[int]struct{ a, b int }{
		spawn: {programs - 1, 0}, make_: {7, 4}, send: {7, 99}, recv: {7, 0}, close_: {7, 0},
		select_: {0, 0}, read: {7, 0}, write: {7, 0}, exit: {0, 0},
	}
	most, ok := row[o.Kind]
	if !ok || o.A < 0 || o.A > most.a || o.B < 0 || o.B > most.b {
		return false
	}
	if o.Kind != select_ {
		return !o.Default && len(o.Cases) == 0
	}
	return !slices.ContainsFunc(o.Cases, func(c api.Case) bool {
		return c.Chan < 0 || c.Chan > 7 || c.Value < 0 || c.Value > 99 || !c.Send && c.Value != 0
	})
}

func want(o api.Op, programs int) api.Errno {
	if programs < 1 || programs > 8 || o.Kind < 1 || o.Kind > 9 {
		return api.ErrArg
	}
	if len(o.Cases) > 4 {
		return api.ErrLong
	}
	if !right(o, programs) {
		return api.ErrForm
	}
	return api.OK
}

// told are an operation's bytes: all numbers of a right one are below 240.
func told(o api.Op) string {
	b := []byte{byte(o.Kind)}
	switch o.Kind {
	case make_, send:
		b = append(b, byte(o.A), byte(o.B))
	case spawn, recv, close_, read, write:
		b = append(b, byte(o.A))
	case select_:
		b = append(b, flag(o.Default), byte(len(o.Cases)))
		for _, c := range o.Cases {
			b = append(b, flag(c.Send), byte(c.Chan), byte(c.Value))
		}
	}
	return string(b)
}

func flag(b bool) byte {
	if b {
		return 1
	}
	return 0
}

func same(a, b api.Op) bool {
	return a.Kind == b.Kind && a.A == b.A && a.B == b.B && a.Default == b.Default && slices.Equal(a.Cases, b.Cases)
}

func empty(o api.Op) bool { return same(o, api.Op{}) }

// caseLists are lists of cases, right and wrong, up to one above the limit.
var caseLists = [][]api.Case{
	nil, {}, {{}}, {{Chan: 7}}, {{Chan: 8}}, {{Chan: -1}}, {{Value: 1}}, {{Value: -1}}, {{Value: 99}},
	{{Send: true}}, {{Send: true, Chan: 7, Value: 99}}, {{Send: true, Value: 100}}, {{Send: true, Value: -1}}, {{Send: true, Chan: 8}}, {{Send: true, Chan: -1}},
	{{Send: true, Value: math.MaxInt}}, {{Chan: math.MaxInt}}, {{Chan: math.MinInt, Value: math.MinInt}},
	{{Chan: 3}, {Send: true, Chan: 3, Value: 5}}, {{Chan: 3}, {Chan: 3}, {Chan: 9}},
	{{Chan: 1}, {Send: true, Chan: 2, Value: 7}, {Chan: 3}, {Send: true}},
	{{Chan: 1}, {Chan: 2}, {Chan: 3}, {Chan: 4, Value: 1}},
	make([]api.Case, 5), {{Chan: 8}, {}, {}, {}, {}}, make([]api.Case, 300),
}

// every calls of operations with each field at its edges and beyond.
func every(f func(o api.Op)) {
	for _, kind := range append(ints, 6) {
		for _, a := range ints {
			for _, b := range ints {
				for _, cases := range caseLists {
					f(api.Op{Kind: kind, A: a, B: b, Cases: cases})
					f(api.Op{Kind: kind, A: a, B: b, Cases: cases, Default: true})
				}
			}
		}
	}
}

func TestCheckAndEncodeOfEachField(t *testing.T) {
	for _, programs := range []int{0, 1, 2, 8, 9} {
		every(func(o api.Op) {
			errno := want(o, programs)
			if got := deed.Check(o, programs); got != errno {
				t.Fatalf("Check(%v, %d): %v, not %v", o, programs, got, errno)
			}
			text := ""
			if errno == api.OK {
				text = told(o)
			}
			if s, got := deed.Encode(o, programs); s != text || got != errno {
				t.Fatalf("Encode(%v, %d): %x, %v", o, programs, s, got)
			}
		})
	}
}

func TestEncodeOfExamples(t *testing.T) {
	for _, c := range []struct {
		o api.Op
		s string
	}{
		{api.Op{Kind: spawn, A: 7}, "\x01\x07"},
		{api.Op{Kind: make_, A: 7, B: 4}, "\x02\x07\x04"},
		{api.Op{Kind: make_}, "\x02\x00\x00"},
		{api.Op{Kind: send, A: 2, B: 7}, "\x03\x02\x07"},
		{api.Op{Kind: send, A: 7, B: 99}, "\x03\x07\x63"},
		{api.Op{Kind: recv, A: 6}, "\x04\x06"},
		{api.Op{Kind: close_, A: 5}, "\x05\x05"},
		{api.Op{Kind: select_}, "\x06\x00\x00"},
		{api.Op{Kind: select_, Default: true}, "\x06\x01\x00"},
		{api.Op{Kind: select_, Default: true, Cases: []api.Case{{Chan: 1}}}, "\x06\x01\x01\x00\x01\x00"},
		{api.Op{Kind: select_, Cases: []api.Case{{Chan: 1}, {Send: true, Chan: 2, Value: 3}, {Chan: 4}, {Send: true, Chan: 5, Value: 99}}},
			"\x06\x00\x04\x00\x01\x00\x01\x02\x03\x00\x04\x00\x01\x05\x63"},
		{api.Op{Kind: read, A: 4}, "\x07\x04"},
		{api.Op{Kind: write, A: 3}, "\x08\x03"},
		{api.Op{Kind: exit}, "\x09"},
	} {
		if s, errno := deed.Encode(c.o, 8); s != c.s || errno != api.OK {
			t.Errorf("Encode(%v): %x, %v", c.o, s, errno)
		}
		if o, rest, errno := deed.Decode(c.s+"z", 8); !same(o, c.o) || rest != "z" || errno != api.OK {
			t.Errorf("Decode(%x): %v, %x, %v", c.s, o, rest, errno)
		}
	}
}

func TestProgramsBoundWhatIsSpawned(t *testing.T) {
	for programs := 1; programs <= 8; programs++ {
		for a := -1; a <= 9; a++ {
			errno := api.ErrForm
			if a >= 0 && a < programs {
				errno = api.OK
			}
			if got := deed.Check(api.Op{Kind: spawn, A: a}, programs); got != errno {
				t.Errorf("Check of spawn %d, %d: %v", a, programs, got)
			}
			if a < 0 {
				continue
			}
			if _, _, got := deed.Decode("\x01"+string([]byte{byte(a)}), programs); got != errno {
				t.Errorf("Decode of spawn %d, %d: %v", a, programs, got)
			}
		}
	}
}

func TestWrongNumbersOfPrograms(t *testing.T) {
	for _, programs := range []int{math.MinInt, -8, -1, 0, 9, 10, 256, math.MaxInt} {
		for _, o := range []api.Op{{Kind: exit}, {Kind: spawn}, {}, {Kind: exit, A: 1}, {Kind: select_, Cases: make([]api.Case, 5)}} {
			if errno := deed.Check(o, programs); errno != api.ErrArg {
				t.Errorf("Check(%v, %d): %v", o, programs, errno)
			}
			if s, errno := deed.Encode(o, programs); s != "" || errno != api.ErrArg {
				t.Errorf("Encode(%v, %d): %x, %v", o, programs, s, errno)
			}
		}
		for _, s := range []string{"\x09", "\x09z", "", "\xff", "\x0a", "\x03\x08\x00"} {
			if o, rest, errno := deed.Decode(s, programs); !empty(o) || rest != "" || errno != api.ErrArg {
				t.Errorf("Decode(%x, %d): %v, %x, %v", s, programs, o, rest, errno)
			}
		}
	}
}

func TestTooManyCasesAreLongWhateverElseIsWrong(t *testing.T) {
	five := make([]api.Case, 5)
	for kind := -1; kind <= 11; kind++ {
		errno := api.ErrLong
		if kind < 1 || kind > 9 {
			errno = api.ErrArg
		}
		for _, o := range []api.Op{{Kind: kind, Cases: five}, {Kind: kind, A: -1, B: 100, Cases: five}, {Kind: kind, Cases: five, Default: true}} {
			if got := deed.Check(o, 1); got != errno {
				t.Errorf("Check(%v): %v", o, got)
			}
		}
	}
}

// ops are all right operations but selects, in a script of so many programs, and selects of each length.
func ops(programs int) []api.Op {
	var l []api.Op
	for kind := spawn; kind <= exit; kind++ {
		for a := range 8 {
			for b := range 100 {
				if o := (api.Op{Kind: kind, A: a, B: b}); right(o, programs) {
					l = append(l, o)
				}
			}
		}
	}
	r := rand.New(rand.NewSource(4))
	for i := range 3000 {
		o := api.Op{Kind: select_, Default: r.Intn(2) == 1}
		for range i % 5 {
			c := api.Case{Chan: r.Intn(8)}
			if r.Intn(2) == 1 {
				c.Send, c.Value = true, r.Intn(100)
			}
			o.Cases = append(o.Cases, c)
		}
		l = append(l, o)
	}
	return l
}

func TestWhatWasEncodedIsDecoded(t *testing.T) {
	for _, programs := range []int{1, 3, 8} {
		for _, o := range ops(programs) {
			s, errno := deed.Encode(o, programs)
			if s != told(o) || errno != api.OK {
				t.Fatalf("Encode(%v): %x, %v", o, s, errno)
			}
			for _, tail := range []string{"", "\x00", "\x09", "\xff\xff", strings.Repeat("\x01", 20)} {
				if got, rest, errno := deed.Decode(s+tail, programs); !same(got, o) || rest != tail || errno != api.OK {
					t.Fatalf("Decode(%x): %v, %x, %v", s+tail, got, rest, errno)
				}
			}
			for n := range s {
				notDecoded(t, s[:n], programs)
			}
		}
	}
}

func notDecoded(t *testing.T, s string, programs int) {
	t.Helper()
	if o, rest, errno := deed.Decode(s, programs); !empty(o) || rest != "" || errno != api.ErrForm {
		t.Fatalf("Decode(%x, %d): %v, %x, %v", s, programs, o, rest, errno)
	}
}

// decodes holds Decode of any bytes against the encodings of right operations.
func decodes(t *testing.T, s string, programs int, known map[string]bool) {
	t.Helper()
	o, rest, errno := deed.Decode(s, programs)
	if errno == api.OK {
		if !right(o, programs) || told(o)+rest != s {
			t.Fatalf("Decode(%x, %d): %v, %x", s, programs, o, rest)
		}
		return
	}
	if !empty(o) || rest != "" || errno != api.ErrForm {
		t.Fatalf("Decode(%x, %d): %v, %x, %v", s, programs, o, rest, errno)
	}
	for n := range len(s) + 1 {
		if known[s[:n]] {
			t.Fatalf("Decode(%x, %d): %v, but it begins with %x", s, programs, errno, s[:n])
		}
	}
}

func TestWhatIsDecodedWasEncodedSo(t *testing.T) {
	for _, programs := range []int{1, 8} {
		known := map[string]bool{"\x06\x00\x00": true, "\x06\x01\x00": true}
		for _, o := range ops(programs) {
			known[told(o)] = true
		}
		decodes(t, "", programs, known)
		for a := range 256 {
			for b := range 256 {
				decodes(t, string([]byte{byte(a)}), programs, known)
				decodes(t, string([]byte{byte(a), byte(b)}), programs, known)
				for kind := range 12 {
					decodes(t, string([]byte{byte(kind), byte(a), byte(b)}), programs, known)
				}
				decodes(t, string([]byte{select_, byte(a), 1, 0, byte(b), 0}), programs, known)
				decodes(t, string([]byte{select_, 0, 1, byte(a), 1, byte(b)}), programs, known)
				decodes(t, string([]byte{select_, 1, byte(a), 0, 1, 0, 0, byte(b), 0, 0, 1, 0, 0, 1, 0, 0, 1, 0}), programs, known)
			}
		}
	}
}

func TestDecodeOfWrongBytes(t *testing.T) {
	long := "\x00\x01\x00\x00\x01\x00\x00\x01\x00\x00\x01\x00"
	for _, s := range []string{
		"", "\x00", "\x0a", "\x0a\x00\x00", "\xef", "\xf0", "\xf1\xf0\x00", "\xff", // no kind
		"\xf1\x03\x02\x07", "\x03\xf1\x02\x07", "\x03\x02\xf1\x07", // numbers with too many bytes
		"\x01", "\x01\x02", "\x01\xf1\xf0", // a program
		"\x02\x00", "\x02\x08\x00", "\x02\x00\x05", "\x03\x00", "\x03\x08\x00", "\x03\x00\x64", "\x03\x00\xf2\x01\x00",
		"\x04", "\x04\x08", "\x05", "\x05\x08", "\x07", "\x07\x08", "\x08", "\x08\x08",
		"\x06", "\x06\x00", "\x06\x02\x00", "\x06\x00\x01", "\x06\x00\x01\x00", "\x06\x00\x01\x00\x01", // a select that is cut short, a default that is none
		"\x06\x00\x01\x02\x01\x00", "\x06\x00\x01\x00\x08\x00", "\x06\x00\x01\x00\x01\x01", "\x06\x00\x01\x01\x01\x64", // cases that are wrong
		"\x06\x00\x05\x00\x01\x00" + long, "\x06\x00\xf6\x01\x00\x00\x00\x00\x00" + long, // too many
	} {
		notDecoded(t, s, 2)
	}
}

func TestReleases(t *testing.T) {
	for _, kind := range []int{spawn, send, recv, close_, select_} {
		if !deed.Releases(api.Op{Kind: kind}) || !deed.Releases(api.Op{Kind: kind, A: 7, B: 3, Default: true}) {
			t.Errorf("kind %d does not release", kind)
		}
	}
	for _, kind := range []int{make_, read, write, exit, 0, -1, 10, math.MinInt, math.MaxInt} {
		if deed.Releases(api.Op{Kind: kind}) || deed.Releases(api.Op{Kind: kind, A: 7, B: 3, Cases: make([]api.Case, 2)}) {
			t.Errorf("kind %d releases", kind)
		}
	}
}

func TestNames(t *testing.T) {
	for _, c := range []struct {
		o    api.Op
		want []int
	}{
		{api.Op{Kind: make_, A: 7, B: 4}, []int{7}},
		{api.Op{Kind: send, A: 0, B: 99}, []int{0}},
		{api.Op{Kind: recv, A: 3}, []int{3}},
		{api.Op{Kind: close_, A: 6}, []int{6}},
		{api.Op{Kind: select_}, nil},
		{api.Op{Kind: select_, Default: true}, nil},
		{api.Op{Kind: select_, Cases: []api.Case{{Chan: 1}}}, []int{1}},
		{api.Op{Kind: select_, Cases: []api.Case{{Chan: 5}, {Send: true, Chan: 0, Value: 3}, {Chan: 5}, {Send: true, Chan: 2}}}, []int{5, 0, 5, 2}},
		{api.Op{Kind: spawn, A: 3}, nil},
		{api.Op{Kind: read, A: 3}, nil},
		{api.Op{Kind: write, A: 3}, nil},
		{api.Op{Kind: exit}, nil},
		{api.Op{}, nil},
		{api.Op{Kind: 10, A: 3, Cases: []api.Case{{Chan: 1}}}, nil},
	} {
		if l := deed.Names(c.o); !slices.Equal(l, c.want) {
			t.Errorf("Names(%v): %v", c.o, l)
		}
	}
}

func TestNothingHandedInIsChanged(t *testing.T) {
	room := []api.Case{{Chan: 1}, {Send: true, Chan: 2, Value: 3}, {Chan: 4}, {Send: true, Chan: 5}}
	o := api.Op{Kind: select_, Cases: room[:2]}
	deed.Check(o, 1)
	deed.Encode(o, 1)
	deed.Releases(o)
	l := deed.Names(o)
	l[0] = 9
	_ = append(l[:1], 9, 9, 9)
	if !slices.Equal(room, []api.Case{{Chan: 1}, {Send: true, Chan: 2, Value: 3}, {Chan: 4}, {Send: true, Chan: 5}}) {
		t.Errorf("changed: %v", room)
	}
	if l := deed.Names(o); !slices.Equal(l, []int{1, 2}) {
		t.Errorf("Names: %v", l)
	}
}

func TestDecodeAnswersNewMemory(t *testing.T) {
	s := "\x06\x00\x02\x00\x01\x00\x01\x02\x03"
	a, _, _ := deed.Decode(s, 1)
	b, _, _ := deed.Decode(s, 1)
	a.Cases[0].Chan = 9
	_ = append(a.Cases[:1], api.Case{}, api.Case{})
	if !slices.Equal(b.Cases, []api.Case{{Chan: 1}, {Send: true, Chan: 2, Value: 3}}) {
		t.Errorf("shared: %v", b.Cases)
	}
}

// The bytes are those of reel's numbers, one behind the other.
func TestBytesAreThoseOfNumbers(t *testing.T) {
	for _, o := range ops(8) {
		s, _ := deed.Encode(o, 8)
		for rest := s; rest != ""; {
			n, behind, errno := reel.Take(rest)
			put, _ := reel.Put(n)
			if errno != api.OK || put+behind != rest {
				t.Fatalf("Encode(%v): %x", o, s)
			}
			rest = behind
		}
	}
}
