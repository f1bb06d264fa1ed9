package sheet_test

import (
	"encoding/binary"
	"math"
	"math/rand"
	"slices"
	"strings"
	"testing"

	"staithe/api"
	"staithe/sheet"
)

const example = "\x02\x09\x01\x01\x09\x02\x01\x00\x00"

func exampleScript() api.Script {
	return api.Script{T: 2, M: 9, Programs: [][]api.Op{{{Kind: api.OpExit}}}, Plan: []int{0, api.Compact}}
}

// script is a right one with something in each list.
func script() api.Script {
	return api.Script{
		T: 3, M: 300,
		Programs: [][]api.Op{
			{{Kind: api.OpMake, A: 1, B: 2}, {Kind: api.OpSpawn, A: 1}, {Kind: api.OpSend, A: 1, B: 99}},
			{{Kind: api.OpSelect, Default: true, Cases: []api.Case{{Chan: 1}, {Send: true, Chan: 2, Value: 5}}}, {Kind: api.OpExit}},
		},
		Plan:  []int{api.Compact, 0, 239, api.Compact, 1000},
		Draws: []int{7, 0, 1000},
	}
}

const scriptBytes = "\x03\xf2\x01\x2c\x02" +
	"\x03\x02\x01\x02\x01\x01\x03\x01\x63" +
	"\x02\x06\x01\x02\x00\x01\x00\x01\x02\x05\x09" +
	"\x05\x00\x01\xf1\xf0\x00\xf2\x03\xe9" +
	"\x03\x07\x00\xf2\x03\xe8"

func sameOp(a, b api.Op) bool {
	return a.Kind == b.Kind && a.A == b.A && a.B == b.B && a.Default == b.Default && slices.Equal(a.Cases, b.Cases)
}

func same(a, b api.Script) bool {
	programs := func(a, b []api.Op) bool { return slices.EqualFunc(a, b, sameOp) }
	return a.T == b.T && a.M == b.M && slices.EqualFunc(a.Programs, b.Programs, programs) &&
		slices.Equal(a.Plan, b.Plan) && slices.Equal(a.Draws, b.Draws)
}

// spelled are a number's bytes, by the library's own means.
func spelled(n int) string {
	if n < 240 {
		return string([]byte{byte(n)})
	}
	s := strings.TrimLeft(string(binary.BigEndian.AppendUint64(nil, uint64(n))), "\x00")
	return string([]byte{byte(240 + len(s))}) + s
}

func flag(b bool) int {
	if b {
		return 1
	}
	return 0
}

// told are a right script's bytes, as the document lists them.
func told(s api.Script) string {
	l := []int{s.T, s.M, len(s.Programs)}
	for _, program := range s.Programs {
		l = append(l, len(program))
		for _, o := range program {
			l = append(l, o.Kind)
			switch o.Kind {
			case api.OpMake, api.OpSend:
				l = append(l, o.A, o.B)
			case api.OpSelect:
				l = append(l, flag(o.Default), len(o.Cases))
				for _, c := range o.Cases {
					l = append(l, flag(c.Send), c.Chan, c.Value)
				}
			case api.OpExit:
			default:
				l = append(l, o.A)
			}
		}
	}
	l = append(l, len(s.Plan))
	for _, entry := range s.Plan {
		l = append(l, entry+1)
	}
	l = append(append(l, len(s.Draws)), s.Draws...)
	var b strings.Builder
	for _, n := range l {
		b.WriteString(spelled(n))
	}
	return b.String()
}

// right asks all three calls of a right script.
func right(t *testing.T, what string, s api.Script) {
	t.Helper()
	if errno := sheet.Check(s); errno != api.OK {
		t.Errorf("%s: Check: %v", what, errno)
	}
	b, errno := sheet.Encode(s)
	if b != told(s) || errno != api.OK {
		t.Errorf("%s: Encode: %.80x, %v", what, b, errno)
	}
	if got, errno := sheet.Decode(told(s)); !same(got, s) || errno != api.OK {
		t.Errorf("%s: Decode: %.200v, %v", what, got, errno)
	}
}

func wrong(t *testing.T, what string, s api.Script, want api.Errno) {
	t.Helper()
	if errno := sheet.Check(s); errno != want {
		t.Errorf("%s: Check: %v, not %v", what, errno, want)
	}
	if b, errno := sheet.Encode(s); b != "" || errno != want {
		t.Errorf("%s: Encode: %.80x, %v, not %v", what, b, errno, want)
	}
}

func notDecoded(t *testing.T, what, b string) {
	t.Helper()
	if s, errno := sheet.Decode(b); !same(s, api.Script{}) || errno != api.ErrForm {
		t.Errorf("%s: Decode(%.80x): %.200v, %v", what, b, s, errno)
	}
}

func TestExamples(t *testing.T) {
	for _, c := range []struct {
		s api.Script
		b string
	}{{exampleScript(), example}, {script(), scriptBytes}} {
		if told(c.s) != c.b {
			t.Fatalf("the test tells %x, not %x", told(c.s), c.b)
		}
		right(t, "example", c.s)
	}
}

// change is a script that is right but for what was done to it, or is right still (api.OK).
type change struct {
	what string
	do   func(s *api.Script)
	want api.Errno
}

func edges() []change {
	exit := api.Op{Kind: api.OpExit}
	l := []change{
		{"T MinInt", func(s *api.Script) { s.T = math.MinInt }, api.ErrArg},
		{"T -1", func(s *api.Script) { s.T = -1 }, api.ErrArg},
		{"T 0", func(s *api.Script) { s.T = 0 }, api.ErrArg},
		{"T 1", func(s *api.Script) { s.T = 1 }, api.OK},
		{"T 256", func(s *api.Script) { s.T = 256 }, api.OK},
		{"T 257", func(s *api.Script) { s.T = 257 }, api.ErrArg},
		{"T MaxInt", func(s *api.Script) { s.T = math.MaxInt }, api.ErrArg},
		{"M MinInt", func(s *api.Script) { s.M = math.MinInt }, api.ErrArg},
		{"M -1", func(s *api.Script) { s.M = -1 }, api.ErrArg},
		{"M 0", func(s *api.Script) { s.M = 0 }, api.ErrArg},
		{"M 1", func(s *api.Script) { s.M = 1 }, api.OK},
		{"M 2^20", func(s *api.Script) { s.M = 1048576 }, api.OK},
		{"M 2^20 + 1", func(s *api.Script) { s.M = 1048577 }, api.ErrArg},
		{"M MaxInt", func(s *api.Script) { s.M = math.MaxInt }, api.ErrArg},
		{"no program", func(s *api.Script) { s.Programs = nil }, api.ErrForm},
		{"no program, not nil", func(s *api.Script) { s.Programs = [][]api.Op{} }, api.ErrForm},
		{"one empty program", func(s *api.Script) { s.Programs = make([][]api.Op, 1) }, api.OK},
		{"8 programs", func(s *api.Script) { s.Programs = append(s.Programs, make([][]api.Op, 6)...) }, api.OK},
		{"9 programs", func(s *api.Script) { s.Programs = append(s.Programs, make([][]api.Op, 7)...) }, api.ErrLong},
		{"300 programs", func(s *api.Script) { s.Programs = make([][]api.Op, 300) }, api.ErrLong},
		{"no operation", func(s *api.Script) { s.Programs[0] = nil }, api.OK},
		{"no operation, not nil", func(s *api.Script) { s.Programs[1] = []api.Op{} }, api.OK},
		{"32 operations", func(s *api.Script) { s.Programs[0] = slices.Repeat([]api.Op{exit}, 32) }, api.OK},
		{"33 operations", func(s *api.Script) { s.Programs[0] = slices.Repeat([]api.Op{exit}, 33) }, api.ErrLong},
		{"33 operations of the last", func(s *api.Script) { s.Programs[1] = slices.Repeat([]api.Op{exit}, 33) }, api.ErrLong},
		{"no plan", func(s *api.Script) { s.Plan = nil }, api.OK},
		{"an empty plan", func(s *api.Script) { s.Plan = []int{} }, api.OK},
		{"200 entries", func(s *api.Script) { s.Plan = slices.Repeat([]int{1000}, 200) }, api.OK},
		{"201 entries", func(s *api.Script) { s.Plan = make([]int, 201) }, api.ErrLong},
		{"no draws", func(s *api.Script) { s.Draws = nil }, api.OK},
		{"empty draws", func(s *api.Script) { s.Draws = []int{} }, api.OK},
		{"64 draws", func(s *api.Script) { s.Draws = slices.Repeat([]int{1000}, 64) }, api.OK},
		{"65 draws", func(s *api.Script) { s.Draws = make([]int, 65) }, api.ErrLong},
		{"an entry MinInt", func(s *api.Script) { s.Plan = []int{math.MinInt} }, api.ErrForm},
		{"an entry -2", func(s *api.Script) { s.Plan = []int{0, -2} }, api.ErrForm},
		{"an entry -1", func(s *api.Script) { s.Plan = []int{-1} }, api.OK},
		{"an entry 1000", func(s *api.Script) { s.Plan = []int{1000} }, api.OK},
		{"an entry 1001", func(s *api.Script) { s.Plan = []int{1001, 0} }, api.ErrForm},
		{"an entry MaxInt", func(s *api.Script) { s.Plan = []int{math.MaxInt} }, api.ErrForm},
		{"the 200th entry 1001", func(s *api.Script) { s.Plan = append(make([]int, 199), 1001) }, api.ErrForm},
		{"a draw MinInt", func(s *api.Script) { s.Draws = []int{math.MinInt} }, api.ErrForm},
		{"a draw -1", func(s *api.Script) { s.Draws = []int{-1, 0} }, api.ErrForm},
		{"a draw 0", func(s *api.Script) { s.Draws = []int{0} }, api.OK},
		{"a draw 1000", func(s *api.Script) { s.Draws = []int{1000} }, api.OK},
		{"a draw 1001", func(s *api.Script) { s.Draws = []int{0, 1001} }, api.ErrForm},
		{"a draw MaxInt", func(s *api.Script) { s.Draws = []int{math.MaxInt} }, api.ErrForm},
		{"the 64th draw -1", func(s *api.Script) { s.Draws = append(make([]int, 63), -1) }, api.ErrForm},
	}
	// What deed.Check answers of an operation, be it ErrArg or ErrLong, is ErrForm of the script.
	for _, o := range []api.Op{
		{}, {Kind: 10}, {Kind: -1}, {Kind: api.OpExit, A: 1}, {Kind: api.OpSpawn, A: 2}, {Kind: api.OpSpawn, A: -1},
		{Kind: api.OpMake, B: 5}, {Kind: api.OpSend, A: 8}, {Kind: api.OpRead, Default: true},
		{Kind: api.OpSelect, Cases: make([]api.Case, 5)}, {Kind: api.OpSelect, Cases: []api.Case{{Value: 1}}},
	} {
		l = append(l,
			change{"an operation that is not right", func(s *api.Script) { s.Programs[0][0] = o }, api.ErrForm},
			change{"the last operation not right", func(s *api.Script) { s.Programs[1][1] = o }, api.ErrForm})
	}
	return l
}

func TestEdges(t *testing.T) {
	for _, c := range edges() {
		s := script()
		c.do(&s)
		if c.want == api.OK {
			right(t, c.what, s)
		} else {
			wrong(t, c.what, s, c.want)
		}
	}
}

// faults are each in a part of a script of its own, or longer than that part may be as well as not right.
func faults() [][]change {
	return [][]change{
		{{"T", func(s *api.Script) { s.T = 0 }, api.ErrArg}},
		{{"M", func(s *api.Script) { s.M = 1<<20 + 1 }, api.ErrArg}},
		{{"9 programs", func(s *api.Script) { s.Programs = append(s.Programs, make([][]api.Op, 7)...) }, api.ErrLong}},
		{
			{"33 operations of no kind", func(s *api.Script) { s.Programs[1] = make([]api.Op, 33) }, api.ErrLong},
			{"an operation of no kind", func(s *api.Script) { s.Programs[1][1].Kind = 0 }, api.ErrForm},
			{"5 cases", func(s *api.Script) { s.Programs[1][0].Cases = make([]api.Case, 5) }, api.ErrForm},
		},
		{
			{"201 entries -2", func(s *api.Script) { s.Plan = slices.Repeat([]int{-2}, 201) }, api.ErrLong},
			{"an entry -2", func(s *api.Script) { s.Plan[0] = -2 }, api.ErrForm},
		},
		{
			{"65 draws -1", func(s *api.Script) { s.Draws = slices.Repeat([]int{-1}, 65) }, api.ErrLong},
			{"a draw 1001", func(s *api.Script) { s.Draws[0] = 1001 }, api.ErrForm},
		},
	}
}

// rank is the order in which what is not right is told.
func rank(e api.Errno) int {
	return slices.Index([]api.Errno{api.ErrArg, api.ErrLong, api.ErrForm}, e)
}

func TestTwoThingsThatAreNotRight(t *testing.T) {
	for i, some := range faults() {
		for _, others := range faults()[:i] {
			for _, a := range some {
				for _, b := range others {
					s := script()
					a.do(&s)
					b.do(&s)
					want := a.want
					if rank(b.want) < rank(a.want) {
						want = b.want
					}
					wrong(t, a.what+", "+b.what, s, want)
				}
			}
		}
	}
	wrong(t, "nothing", api.Script{}, api.ErrArg)
	wrong(t, "nothing but T and M", api.Script{T: 1, M: 1}, api.ErrForm)
	wrong(t, "no program, 201 entries", api.Script{T: 1, M: 1, Plan: make([]int, 201)}, api.ErrLong)
	wrong(t, "no program, 65 draws", api.Script{T: 1, M: 1, Draws: make([]int, 65)}, api.ErrLong)
}

// A spawn's program is held against how many there are.
func TestProgramsBoundWhatIsSpawned(t *testing.T) {
	for programs := 1; programs <= 8; programs++ {
		for a := range 9 {
			s := api.Script{T: 1, M: 1, Programs: make([][]api.Op, programs)}
			s.Programs[programs-1] = []api.Op{{Kind: api.OpSpawn, A: a}}
			if a < programs {
				right(t, "spawn", s)
				continue
			}
			wrong(t, "spawn", s, api.ErrForm)
			notDecoded(t, "spawn", told(s))
		}
	}
}

func full() api.Script {
	send := api.Case{Send: true, Chan: 7, Value: 99}
	o := api.Op{Kind: api.OpSelect, Default: true, Cases: []api.Case{send, send, send, send}}
	return api.Script{
		T: 256, M: 1 << 20,
		Programs: slices.Repeat([][]api.Op{slices.Repeat([]api.Op{o}, 32)}, 8),
		Plan:     slices.Repeat([]int{1000, api.Compact}, 100),
		Draws:    slices.Repeat([]int{1000}, 64),
	}
}

func TestFullScript(t *testing.T) {
	right(t, "full", full())
}

func TestDecodeOfBytesCutShortOrGoingOn(t *testing.T) {
	for _, s := range []api.Script{exampleScript(), script(), full()} {
		b := told(s)
		for n := range b {
			notDecoded(t, "cut short", b[:n])
		}
		for _, tail := range []string{"\x00", "\x01", "\x09", "\xef", "\xf0", "\xff", "\x00\x00", b, strings.Repeat("\x00", 300)} {
			notDecoded(t, "going on", b+tail)
		}
		notDecoded(t, "behind another byte", "\x01"+b)
	}
}

func TestDecodeOfWrongBytes(t *testing.T) {
	programs := "\x01\x00"
	for what, b := range map[string]string{
		"empty":                       "",
		"no number":                   "\xf0",
		"noughts":                     strings.Repeat("\x00", 9),
		"T 0":                         "\x00\x01" + programs + "\x00\x00",
		"T 257":                       "\xf2\x01\x01\x01" + programs + "\x00\x00",
		"T of too many bytes":         "\xf1\x02\x09" + programs + "\x00\x00",
		"M 0":                         "\x01\x00" + programs + "\x00\x00",
		"M 2^20 + 1":                  "\x01\xf3\x10\x00\x01" + programs + "\x00\x00",
		"M of too many bytes":         "\x01\xf1\xef" + programs + "\x00\x00",
		"no program":                  "\x01\x01\x00\x00\x00",
		"9 programs":                  "\x01\x01\x09" + strings.Repeat("\x00", 9) + "\x00\x00",
		"2^40 programs":               "\x01\x01\xf6\x01\x00\x00\x00\x00\x00" + strings.Repeat("\x00", 99),
		"programs of too many bytes":  "\x01\x01\xf1\x01\x00\x00\x00",
		"33 operations":               "\x01\x01\x01\x21" + strings.Repeat("\x09", 33) + "\x00\x00",
		"2^40 operations":             "\x01\x01\x01\xf6\x01\x00\x00\x00\x00\x00" + strings.Repeat("\x09", 99),
		"operations of too many":      "\x01\x01\x01\xf1\x01\x09\x00\x00",
		"an operation of no kind":     "\x01\x01\x01\x01\x0a\x00\x00",
		"an operation not right":      "\x01\x01\x01\x01\x04\x08\x00\x00",
		"a spawn of no program":       "\x01\x01\x01\x01\x01\x01\x00\x00",
		"5 cases":                     "\x01\x01\x01\x01\x06\x00\x05" + strings.Repeat("\x00", 15) + "\x00\x00",
		"201 entries":                 "\x01\x01" + programs + spelled(201) + strings.Repeat("\x01", 201) + "\x00",
		"2^40 entries":                "\x01\x01" + programs + spelled(1<<40) + strings.Repeat("\x01", 201) + "\x00",
		"an entry 1001":               "\x01\x01" + programs + "\x01" + spelled(1002) + "\x00",
		"an entry 2^40":               "\x01\x01" + programs + "\x01" + spelled(1<<40) + "\x00",
		"an entry of too many bytes":  "\x01\x01" + programs + "\x01\xf1\x01\x00",
		"65 draws":                    "\x01\x01" + programs + "\x00\x41" + strings.Repeat("\x01", 65),
		"2^40 draws":                  "\x01\x01" + programs + "\x00" + spelled(1<<40) + strings.Repeat("\x01", 65),
		"a draw 1001":                 "\x01\x01" + programs + "\x00\x01" + spelled(1001),
		"a draw of too many bytes":    "\x01\x01" + programs + "\x00\x01\xf1\x01",
		"the draws' length left away": "\x01\x01" + programs + "\x00",
	} {
		notDecoded(t, what, b)
	}
	if s, errno := sheet.Decode("\x01\x01" + programs + "\x00\x00"); errno != api.OK || !same(s, api.Script{T: 1, M: 1, Programs: make([][]api.Op, 1)}) {
		t.Errorf("the least script: %v, %v", s, errno)
	}
}

func randomOp(r *rand.Rand, programs int) api.Op {
	o := api.Op{Kind: 1 + r.Intn(9)}
	switch o.Kind {
	case api.OpSpawn:
		o.A = r.Intn(programs)
	case api.OpMake:
		o.A, o.B = r.Intn(8), r.Intn(5)
	case api.OpSend:
		o.A, o.B = r.Intn(8), r.Intn(100)
	case api.OpSelect:
		o.Default = r.Intn(2) == 1
		for range r.Intn(5) {
			c := api.Case{Send: r.Intn(2) == 1, Chan: r.Intn(8)}
			c.Value = r.Intn(100) * flag(c.Send)
			o.Cases = append(o.Cases, c)
		}
	case api.OpExit:
	default:
		o.A = r.Intn(8)
	}
	return o
}

func randomScript(r *rand.Rand) api.Script {
	s := api.Script{T: 1 + r.Intn(256), M: 1 + r.Intn(1<<r.Intn(21))}
	s.Programs = make([][]api.Op, 1+r.Intn(8))
	for i := range s.Programs {
		for range r.Intn(33) * r.Intn(2) {
			s.Programs[i] = append(s.Programs[i], randomOp(r, len(s.Programs)))
		}
	}
	for range r.Intn(201) * r.Intn(2) {
		s.Plan = append(s.Plan, r.Intn(1002)-1)
	}
	for range r.Intn(65) * r.Intn(2) {
		s.Draws = append(s.Draws, r.Intn(1001))
	}
	return s
}

func TestWhatWasEncodedIsDecoded(t *testing.T) {
	r := rand.New(rand.NewSource(5))
	for range 2000 {
		right(t, "any", randomScript(r))
	}
}

// decodes holds what any bytes are against what is told of it: nothing else than right scripts' own bytes is taken.
func decodes(t *testing.T, b string) {
	t.Helper()
	s, errno := sheet.Decode(b)
	if errno == api.OK {
		if sheet.Check(s) != api.OK || told(s) != b {
			t.Fatalf("Decode(%x): %v", b, s)
		}
		return
	}
	if !same(s, api.Script{}) || errno != api.ErrForm {
		t.Fatalf("Decode(%x): %v, %v", b, s, errno)
	}
}

func TestWhatIsDecodedWasEncodedSo(t *testing.T) {
	for _, b := range []string{example, scriptBytes} {
		for i := range b {
			for x := range 256 {
				text := string([]byte{byte(x)})
				decodes(t, b[:i]+text+b[i+1:])
				decodes(t, b[:i]+text+b[i:])
			}
			decodes(t, b[:i]+b[i+1:])
		}
	}
	r := rand.New(rand.NewSource(6))
	for range 100000 {
		b := make([]byte, r.Intn(14))
		for i := range b {
			b[i] = "\x00\x01\x01\x02\x03\x06\x09\xf0\xf1\xf2"[r.Intn(10)]
		}
		decodes(t, string(b))
	}
}
