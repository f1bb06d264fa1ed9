package entry_test

import (
	"math"
	"math/rand"
	"slices"
	"strings"
	"testing"

	"staithe/api"
	"staithe/entry"
)

const (
	spawn = 1 + iota
	make_
	send
	recv
	close_
	park
	wake
	default_
	read
	write
	exit
	panic_
	compact
)

func between(n, least, most int) bool { return n >= least && n <= most }

// right is the document's table, row by row, in its own numbers.
func right(e api.Event) bool {
	g := between(e.G, 0, 511)
	channel, noChannel := between(e.Chan, 0, 511), e.Chan == -1
	choice, noChoice := between(e.Case, -1, 3), e.Case == -1
	value, noValue := between(e.Value, 0, 99), e.Value == -1
	mate, noMate := between(e.Mate, 0, 511), e.Mate == -1
	plain := !e.Send && !e.OK
	switch e.Kind {
	case spawn:
		return g && noChannel && noChoice && between(e.Value, 0, 7) && mate && plain
	case make_:
		return g && channel && noChoice && between(e.Value, 0, 4) && noMate && plain
	case send:
		return g && channel && choice && value && (mate || noMate) && e.Send && !e.OK
	case recv:
		if e.OK {
			return g && channel && choice && value && (mate || noMate) && !e.Send
		}
		return g && channel && choice && e.Value == 0 && noMate && !e.Send
	case close_:
		return g && channel && noChoice && noValue && noMate && plain
	case park:
		ofSelect := noChannel && between(e.Case, 0, 4) && e.Value == 0 && !e.Send
		ofSend := (channel || noChannel) && noChoice && value && e.Send
		ofRecv := (channel || noChannel) && noChoice && e.Value == 0 && !e.Send
		return g && noMate && !e.OK && (ofSelect || ofSend || ofRecv)
	case wake:
		ofSend := e.Send && e.OK && value
		ofRecv := !e.Send && e.OK && value
		ofClose := !e.Send && !e.OK && e.Value == 0
		return g && channel && choice && mate && (ofSend || ofRecv || ofClose)
	case default_, exit, panic_:
		return g && noChannel && noChoice && noValue && noMate && plain
	case read, write:
		return g && noChannel && noChoice && between(e.Value, 0, 7) && noMate && plain
	case compact:
		return e.G == -1 && noChannel && noChoice && noValue && noMate && plain
	}
	return false
}

func want(e api.Event) api.Errno {
	if e.Kind < 1 || e.Kind > 13 {
		return api.ErrArg
	}
	if !right(e) {
		return api.ErrForm
	}
	return api.OK
}

// spelt are a number's bytes, of one below 2^16: none of a right event is above.
func spelt(n int) string {
	switch {
	case n < 240:
		return string([]byte{byte(n)})
	case n < 256:
		return string([]byte{0xf1, byte(n)})
	}
	return string([]byte{0xf2, byte(n >> 8), byte(n)})
}

// told are a right event's bytes.
func told(e api.Event) string {
	flags := 0
	if e.Send {
		flags++
	}
	if e.OK {
		flags += 2
	}
	s := ""
	for _, n := range []int{e.Kind, e.G + 1, e.Chan + 1, e.Case + 1, e.Value + 1, e.Mate + 1, flags} {
		s += spelt(n)
	}
	return s
}

// flagged calls of an event with each pair of flags.
func flagged(e api.Event, f func(e api.Event)) {
	for flags := range 4 {
		e.Send, e.OK = flags&1 == 1, flags&2 == 2
		f(e)
	}
}

// every calls of events with each field at its edges and beyond.
func every(f func(e api.Event)) {
	for kind := -1; kind <= 15; kind++ {
		for _, g := range []int{-2, -1, 0, 511, 512} {
			for _, channel := range []int{-2, -1, 0, 3, 511, 512} {
				for _, choice := range []int{-2, -1, 0, 3, 4, 5} {
					for _, value := range []int{-2, -1, 0, 1, 4, 5, 7, 8, 99, 100} {
						for _, mate := range []int{-2, -1, 0, 511, 512} {
							flagged(api.Event{Kind: kind, G: g, Chan: channel, Case: choice, Value: value, Mate: mate}, f)
						}
					}
				}
			}
		}
	}
}

func checks(t *testing.T, e api.Event) {
	t.Helper()
	errno := want(e)
	if got := entry.Check(e); got != errno {
		t.Fatalf("Check(%+v): %v, not %v", e, got, errno)
	}
	text := ""
	if errno == api.OK {
		text = told(e)
	}
	if s, got := entry.Encode(e); s != text || got != errno {
		t.Fatalf("Encode(%+v): %x, %v, not %x, %v", e, s, got, text, errno)
	}
}

func TestCheckAndEncodeOfEachField(t *testing.T) {
	some := map[int]int{}
	every(func(e api.Event) {
		checks(t, e)
		if right(e) {
			some[e.Kind]++
		}
	})
	if len(some) != 13 {
		t.Errorf("right ones of kinds: %v", some)
	}
}

// TestFieldsFarAway has one field of a right event be any number at all.
func TestFieldsFarAway(t *testing.T) {
	far := []int{math.MinInt, math.MinInt + 1, -1 << 40, -513, -100, 240, 256, 1000, 1<<32 - 1, 1 << 32, 1<<32 + 1, 1 << 40, math.MaxInt - 1, math.MaxInt}
	for _, e := range samples() {
		for _, n := range far {
			for i := range 6 {
				x := e
				*[]*int{&x.Kind, &x.G, &x.Chan, &x.Case, &x.Value, &x.Mate}[i] = n
				checks(t, x)
			}
		}
	}
}

// samples are right events of all kinds.
func samples() []api.Event {
	return []api.Event{
		{Kind: spawn, G: 0, Chan: -1, Case: -1, Value: 7, Mate: 511},
		{Kind: make_, G: 5, Chan: 511, Case: -1, Value: 4, Mate: -1},
		{Kind: send, G: 1, Chan: 2, Case: -1, Value: 7, Mate: 3, Send: true},
		{Kind: send, G: 511, Chan: 0, Case: 3, Value: 99, Mate: -1, Send: true},
		{Kind: recv, G: 1, Chan: 2, Case: 0, Value: 0, Mate: -1},
		{Kind: recv, G: 1, Chan: 255, Case: -1, Value: 99, Mate: 239, OK: true},
		{Kind: close_, G: 254, Chan: 238, Case: -1, Value: -1, Mate: -1},
		{Kind: park, G: 3, Chan: -1, Case: 4, Value: 0, Mate: -1},
		{Kind: park, G: 3, Chan: -1, Case: 0, Value: 0, Mate: -1},
		{Kind: park, G: 3, Chan: -1, Case: -1, Value: 0, Mate: -1},
		{Kind: park, G: 3, Chan: 9, Case: -1, Value: 0, Mate: -1},
		{Kind: park, G: 3, Chan: 9, Case: -1, Value: 99, Mate: -1, Send: true},
		{Kind: park, G: 3, Chan: -1, Case: -1, Value: 0, Mate: -1, Send: true},
		{Kind: wake, G: 3, Chan: 9, Case: 3, Value: 99, Mate: 511, Send: true, OK: true},
		{Kind: wake, G: 3, Chan: 9, Case: -1, Value: 1, Mate: 0, OK: true},
		{Kind: wake, G: 3, Chan: 9, Case: 0, Value: 0, Mate: 0},
		{Kind: default_, G: 4, Chan: -1, Case: -1, Value: -1, Mate: -1},
		{Kind: read, G: 4, Chan: -1, Case: -1, Value: 0, Mate: -1},
		{Kind: write, G: 4, Chan: -1, Case: -1, Value: 7, Mate: -1},
		{Kind: exit, G: 2, Chan: -1, Case: -1, Value: -1, Mate: -1},
		{Kind: panic_, G: 511, Chan: -1, Case: -1, Value: -1, Mate: -1},
		{Kind: compact, G: -1, Chan: -1, Case: -1, Value: -1, Mate: -1},
	}
}

func TestSamplesAreRight(t *testing.T) {
	for _, e := range samples() {
		if errno := entry.Check(e); errno != api.OK {
			t.Errorf("Check(%+v): %v", e, errno)
		}
	}
}

// TestWrongEvents are those that the table's remarks rule out, by themselves.
func TestWrongEvents(t *testing.T) {
	for what, e := range map[string]api.Event{
		"a program that can't be":                {Kind: spawn, Chan: -1, Case: -1, Value: 8, Mate: 1},
		"a spawn of nobody":                      {Kind: spawn, Chan: -1, Case: -1, Value: 0, Mate: -1},
		"too great a capacity":                   {Kind: make_, Chan: 1, Case: -1, Value: 5, Mate: -1},
		"a send that does not send":              {Kind: send, Chan: 1, Case: -1, Value: 5, Mate: -1},
		"a send that is OK":                      {Kind: send, Chan: 1, Case: -1, Value: 5, Mate: -1, Send: true, OK: true},
		"a send to a nil channel":                {Kind: send, Chan: -1, Case: -1, Value: 5, Mate: -1, Send: true},
		"a receive that sends":                   {Kind: recv, Chan: 1, Case: -1, Value: 5, Mate: -1, Send: true, OK: true},
		"a value of a closed channel":            {Kind: recv, Chan: 1, Case: -1, Value: 1, Mate: -1},
		"no value at all of a closed channel":    {Kind: recv, Chan: 1, Case: -1, Value: -1, Mate: -1},
		"a mate at a closed channel":             {Kind: recv, Chan: 1, Case: -1, Value: 0, Mate: 2},
		"a close of a nil channel":               {Kind: close_, Chan: -1, Case: -1, Value: -1, Mate: -1},
		"a select's park with a channel":         {Kind: park, Chan: 1, Case: 2, Value: 0, Mate: -1},
		"a select's park that sends":             {Kind: park, Chan: -1, Case: 2, Value: 0, Mate: -1, Send: true},
		"a select's park with a value":           {Kind: park, Chan: -1, Case: 2, Value: 1, Mate: -1},
		"a park for too many cases":              {Kind: park, Chan: -1, Case: 5, Value: 0, Mate: -1},
		"a receiver's park with a value":         {Kind: park, Chan: 1, Case: -1, Value: 1, Mate: -1},
		"a receiver's park without its nought":   {Kind: park, Chan: 1, Case: -1, Value: -1, Mate: -1},
		"a park that is OK":                      {Kind: park, Chan: 1, Case: -1, Value: 0, Mate: -1, OK: true},
		"a park with a mate":                     {Kind: park, Chan: 1, Case: -1, Value: 0, Mate: 2},
		"a wake by nobody":                       {Kind: wake, Chan: 1, Case: -1, Value: 0, Mate: -1, OK: true},
		"a wake of a sender that is not OK":      {Kind: wake, Chan: 1, Case: -1, Value: 0, Mate: 1, Send: true},
		"a value behind a close":                 {Kind: wake, Chan: 1, Case: -1, Value: 1, Mate: 1},
		"a wake for a fifth case":                {Kind: wake, Chan: 1, Case: 4, Value: 1, Mate: 1, OK: true},
		"a default with a case":                  {Kind: default_, Chan: -1, Case: 0, Value: -1, Mate: -1},
		"a cell that is not there":               {Kind: read, Chan: -1, Case: -1, Value: 8, Mate: -1},
		"an exit whose other fields are noughts": {Kind: exit},
		"a compact of somebody":                  {Kind: compact, G: 0, Chan: -1, Case: -1, Value: -1, Mate: -1},
		"an exit of nobody":                      {Kind: exit, G: -1, Chan: -1, Case: -1, Value: -1, Mate: -1},
	} {
		if errno := entry.Check(e); errno != api.ErrForm {
			t.Errorf("%s: %v", what, errno)
		}
		if s, errno := entry.Encode(e); s != "" || errno != api.ErrForm {
			t.Errorf("%s: %x, %v", what, s, errno)
		}
	}
}

func TestNoKindCountsFirst(t *testing.T) {
	for _, kind := range []int{math.MinInt, -1, 0, 14, 15, 256 + exit, 1<<32 + exit, math.MaxInt} {
		for _, e := range []api.Event{{Kind: kind}, entry.Bare(kind, 1), {Kind: kind, G: -5, Chan: 999, Send: true, OK: true}} {
			if errno := entry.Check(e); errno != api.ErrArg {
				t.Errorf("Check(%+v): %v", e, errno)
			}
			if s, errno := entry.Encode(e); s != "" || errno != api.ErrArg {
				t.Errorf("Encode(%+v): %x, %v", e, s, errno)
			}
		}
	}
}

func TestBytesOfExamples(t *testing.T) {
	for _, c := range []struct {
		e api.Event
		s string
	}{
		{entry.Bare(exit, 2), "\x0b\x03\x00\x00\x00\x00\x00"},
		{entry.Bare(compact, -1), "\x0d\x00\x00\x00\x00\x00\x00"},
		{api.Event{Kind: spawn, G: 0, Chan: -1, Case: -1, Value: 7, Mate: 511}, "\x01\x01\x00\x00\x08\xf2\x02\x00\x00"},
		{api.Event{Kind: send, G: 1, Chan: 2, Case: -1, Value: 7, Mate: 3, Send: true}, "\x03\x02\x03\x00\x08\x04\x01"},
		{api.Event{Kind: recv, G: 238, Chan: 239, Case: 3, Value: 99, Mate: 254, OK: true}, "\x04\xef\xf1\xf0\x04\x64\xf1\xff\x02"},
		{api.Event{Kind: wake, G: 255, Chan: 511, Case: 0, Value: 0, Mate: 0, Send: true, OK: true}, "\x07\xf2\x01\x00\xf2\x02\x00\x01\x01\x01\x03"},
		{api.Event{Kind: park, G: 0, Chan: -1, Case: 4, Value: 0, Mate: -1}, "\x06\x01\x00\x05\x01\x00\x00"},
	} {
		if s, errno := entry.Encode(c.e); s != c.s || errno != api.OK {
			t.Errorf("Encode(%+v): %x, %v", c.e, s, errno)
		}
		if e, rest, errno := entry.Decode(c.s + "z"); e != c.e || rest != "z" || errno != api.OK {
			t.Errorf("Decode(%x): %+v, %x, %v", c.s, e, rest, errno)
		}
	}
}

func TestWhatWasEncodedIsDecoded(t *testing.T) {
	tails := []string{"", "\x00", "\x0b", "\xff\xff", "\x0b\x03\x00\x00\x00\x00\x00"}
	every(func(e api.Event) {
		if !right(e) {
			return
		}
		s := told(e)
		for _, tail := range tails {
			if x, rest, errno := entry.Decode(s + tail); x != e || rest != tail || errno != api.OK {
				t.Fatalf("Decode(%x): %+v, %x, %v", s+tail, x, rest, errno)
			}
		}
		for n := range len(s) {
			notDecoded(t, s[:n])
		}
	})
}

func notDecoded(t *testing.T, s string) {
	t.Helper()
	if e, rest, errno := entry.Decode(s); e != (api.Event{}) || rest != "" || errno != api.ErrForm {
		t.Fatalf("Decode(%x): %+v, %x, %v", s, e, rest, errno)
	}
}

// TestDecodeOfRows has numbers of an event's bytes be right ones or not.
func TestDecodeOfRows(t *testing.T) {
	every(func(e api.Event) {
		least := min(e.Kind, e.G+1, e.Chan+1, e.Case+1, e.Value+1, e.Mate+1)
		if least >= 0 && !right(e) {
			notDecoded(t, told(e)+"\x00")
		}
	})
}

// decodes holds Decode of any bytes against what the table says: an answer tells just those bytes, and where there is
// none no right event's bytes are their beginning.
func decodes(t *testing.T, s string, known map[string]bool) {
	t.Helper()
	e, rest, errno := entry.Decode(s)
	if errno == api.OK {
		if !right(e) || told(e)+rest != s {
			t.Fatalf("Decode(%x): %+v, %x", s, e, rest)
		}
		return
	}
	notDecoded(t, s)
	for n := range len(s) + 1 {
		if known[s[:n]] {
			t.Fatalf("Decode(%x): %v, but it begins with %x", s, errno, s[:n])
		}
	}
}

// TestWhatIsDecodedWasEncodedSo changes each byte of right events' bytes to each other one, and two at a time to drawn ones.
func TestWhatIsDecodedWasEncodedSo(t *testing.T) {
	known := map[string]bool{}
	every(func(e api.Event) {
		if right(e) {
			known[told(e)] = true
		}
	})
	r := rand.New(rand.NewSource(12))
	for _, e := range samples() {
		s := told(e)
		for at := range len(s) {
			for b := range 256 {
				decodes(t, s[:at]+string([]byte{byte(b)})+s[at+1:], known)
				decodes(t, s[:at]+string([]byte{byte(b)})+s[at+1:]+"\x00\x01\x00", known)
				decodes(t, s[:at]+string([]byte{byte(b)})+s[at:], known)
			}
			decodes(t, s[:at]+s[at+1:]+"\x00", known)
		}
		for range 5000 {
			b := []byte(s + "\x00\x00")
			for range 2 {
				b[r.Intn(len(b))] = byte(r.Intn(256))
			}
			decodes(t, string(b), known)
		}
	}
}

func TestDecodeOfWrongBytes(t *testing.T) {
	for _, s := range []string{
		"", "\x00", "\x0b", "\xff", "\xf0\x00\x00\x00\x00\x00\x00",
		"\x00\x03\x00\x00\x00\x00\x00", "\x0e\x03\x00\x00\x00\x00\x00", "\xf6\x01\x00\x00\x00\x00\x00\x03\x00\x00\x00\x00\x00", // no kind
		"\x0b\x03\x00\x00\x00\x00",                                     // cut short
		"\x0b\x03\x00\x00\x00\x00\x01", "\x0b\x03\x00\x00\x00\x00\x02", // flags of an exit
		"\x0b\x03\x00\x00\x00\x00\x04", "\x0b\x03\x00\x00\x00\x00\x08", "\x0b\x03\x00\x00\x00\x00\xf2\x01\x00", // no flags
		"\x07\x01\x01\x00\x01\x01\x07", "\x03\x02\x03\x00\x08\x04\x05",
		"\xf1\x0b\x03\x00\x00\x00\x00\x00", "\x0b\xf1\x03\x00\x00\x00\x00\x00", "\x0b\x03\xf1\x00\x00\x00\x00\x00", "\x0b\x03\x00\x00\x00\x00\xf1\x00", // numbers with too many bytes
		"\x0b\xf2\x02\x01\x00\x00\x00\x00\x00",                 // goroutine 512
		"\x0b\xf6\x01\x00\x00\x00\x00\x00\x00\x00\x00\x00\x00", // goroutine 2^40 - 1
		"\x0b\x00\x00\x00\x00\x00\x00", "\x0d\x01\x00\x00\x00\x00\x00",
	} {
		notDecoded(t, s)
	}
}

// list are so many right events.
func list(n int) []api.Event {
	l := make([]api.Event, n)
	for i := range l {
		l[i] = samples()[i%len(samples())]
	}
	return l
}

func spell(l []api.Event) string {
	var b strings.Builder
	for _, e := range l {
		b.WriteString(told(e))
	}
	return b.String()
}

func TestAllAndRead(t *testing.T) {
	for _, n := range []int{0, 1, 2, 22, 100, 1999, 2000} {
		l := list(n)
		s, errno := entry.All(l)
		if s != spell(l) || errno != api.OK {
			t.Fatalf("All of %d: %v", n, errno)
		}
		if x, errno := entry.Read(s); !slices.Equal(x, l) || errno != api.OK {
			t.Fatalf("Read of %d: %d, %v", n, len(x), errno)
		}
		if !slices.Equal(l, list(n)) {
			t.Fatalf("All of %d changed its list", n)
		}
	}
	if s, errno := entry.All(nil); s != "" || errno != api.OK {
		t.Errorf("All of nil: %x, %v", s, errno)
	}
}

func TestAllOfTooMany(t *testing.T) {
	for _, l := range [][]api.Event{list(2001), list(5000), make([]api.Event, 2001), append(list(2000), api.Event{Kind: exit})} {
		if s, errno := entry.All(l); s != "" || errno != api.ErrLong {
			t.Errorf("All of %d: %d bytes, %v", len(l), len(s), errno)
		}
	}
}

func TestAllTellsTheFirstError(t *testing.T) {
	good, noKind, wrong := entry.Bare(exit, 1), entry.Bare(14, 1), entry.Bare(exit, 512)
	for _, c := range []struct {
		l     []api.Event
		errno api.Errno
	}{
		{[]api.Event{noKind}, api.ErrArg},
		{[]api.Event{wrong}, api.ErrForm},
		{[]api.Event{good, noKind, wrong}, api.ErrArg},
		{[]api.Event{good, wrong, noKind}, api.ErrForm},
		{append(list(1999), wrong), api.ErrForm},
		{make([]api.Event, 2000), api.ErrArg},
	} {
		if s, errno := entry.All(c.l); s != "" || errno != c.errno {
			t.Errorf("All of %d: %d bytes, %v, not %v", len(c.l), len(s), errno, c.errno)
		}
	}
}

func TestReadOfWrongBytes(t *testing.T) {
	some, most, beyond := spell(list(3)), spell(list(2000)), spell(list(2001))
	for what, c := range map[string]struct {
		s     string
		errno api.Errno
	}{
		"a byte":                          {"\x0b", api.ErrForm},
		"a byte too many":                 {some + "\x0b", api.ErrForm},
		"a byte too few":                  {some[:len(some)-1], api.ErrForm},
		"one that is not right":           {some + "\x0b\x00\x00\x00\x00\x00\x00" + some, api.ErrForm},
		"a byte behind as many as may be": {most + "\x0b", api.ErrForm},
		"one too many":                    {beyond, api.ErrLong},
		"far too many":                    {most + most + beyond, api.ErrLong},
		"one too many, and a byte":        {beyond + "\x0b", api.ErrForm},
		"far too many, and a wrong one":   {most + most + "\x0b\x00\x00\x00\x00\x00\x00", api.ErrForm},
	} {
		if l, errno := entry.Read(c.s); len(l) != 0 || errno != c.errno {
			t.Errorf("%s: %d, %v, not %v", what, len(l), errno, c.errno)
		}
	}
	if l, errno := entry.Read(""); len(l) != 0 || errno != api.OK {
		t.Errorf("Read of nothing: %v, %v", l, errno)
	}
}

func TestReadAnswersNewMemory(t *testing.T) {
	s := spell(list(5))
	a, _ := entry.Read(s)
	b, _ := entry.Read(s)
	a = a[:cap(a)]
	for i := range a {
		a[i] = api.Event{}
	}
	if !slices.Equal(b, list(5)) {
		t.Errorf("shared: %v", b)
	}
}

func TestBare(t *testing.T) {
	for _, kind := range []int{math.MinInt, -1, 0, spawn, send, compact, 14, math.MaxInt} {
		for _, g := range []int{math.MinInt, -2, -1, 0, 511, 512, math.MaxInt} {
			want := api.Event{Kind: kind, G: g, Chan: -1, Case: -1, Value: -1, Mate: -1, Send: false, OK: false}
			if e := entry.Bare(kind, g); e != want {
				t.Errorf("Bare(%d, %d): %+v", kind, g, e)
			}
		}
	}
	for _, kind := range []int{default_, exit, panic_} {
		if errno := entry.Check(entry.Bare(kind, 0)); errno != api.OK {
			t.Errorf("Check of bare %d: %v", kind, errno)
		}
	}
}
