package slots_test

import (
	"math"
	"math/rand"
	"slices"
	"testing"

	"staithe/api"
	"staithe/clock"
	"staithe/slots"
)

// mostSize is the greatest capacity of a channel, as the document says.
const mostSize = 4

// noTids are none.
var noTids = []int{math.MinInt, -256, -1, 256, 257, 1 << 32, math.MaxInt}

func of(t *testing.T, l ...int) *clock.Clock {
	t.Helper()
	c, errno := clock.Of(l)
	if errno != api.OK {
		t.Fatal(errno)
	}
	return c
}

func empty(t *testing.T, size int) *slots.Slots {
	t.Helper()
	s, errno := slots.New(size)
	if s == nil || errno != api.OK {
		t.Fatalf("New(%d): %v", size, errno)
	}
	return s
}

// pair are slots beside all that was ever given to them, by numbers; which of it is kept is reckoned from the counts alone.
type pair struct {
	s              *slots.Slots
	size           int
	sent, received [][]int
	closing        []int // nil, if it is not closed
}

func newPair(t *testing.T, size int) *pair {
	t.Helper()
	return &pair{s: empty(t, size), size: size}
}

// fresh is a clock that was not given yet, with numbers at three tids.
func (x *pair) fresh() []int {
	n := len(x.sent) + len(x.received)
	return []int{1 + len(x.sent), 1 + len(x.received), 500 + n}
}

// fetches is what the next send, or receive, fetches: nil, if there is nothing.
func (x *pair) fetches(send bool) []int {
	from, k := x.sent, len(x.received)
	if send {
		from, k = x.received, len(x.sent)-x.size
	}
	if send && x.size == 0 || k < 0 || k >= len(from) {
		return nil
	}
	return from[k]
}

// kept are the lists of all clocks that are kept, in Held's order.
func (x *pair) kept() [][]int {
	var l [][]int
	for k, c := range x.sent {
		if k >= len(x.received) {
			l = append(l, c)
		}
	}
	for k, c := range x.received {
		if x.size > 0 && k+x.size >= len(x.sent) {
			l = append(l, c)
		}
	}
	if x.closing != nil {
		l = append(l, x.closing)
	}
	return l
}

// same tells whether a clock is one of these numbers; nil is none at all.
func same(c *clock.Clock, want []int) bool {
	if c == nil || want == nil {
		return c == nil && want == nil
	}
	l := slices.Clone(want)
	for len(l) > 0 && l[len(l)-1] == 0 {
		l = l[:len(l)-1]
	}
	return slices.Equal(c.List(), l)
}

// holds asks all that can be asked without changing anything.
func (x *pair) holds(t *testing.T, what string) {
	t.Helper()
	if a, b := x.s.Counts(); a != len(x.sent) || b != len(x.received) {
		t.Fatalf("%s: Counts: %d, %d, not %d, %d", what, a, b, len(x.sent), len(x.received))
	}
	for _, send := range []bool{true, false} {
		want := x.fetches(send)
		if c, ok := x.s.Peek(send); !same(c, want) || ok != (want != nil) {
			t.Fatalf("%s: Peek(%t): %v, %t, not %v", what, send, c.List(), ok, want)
		}
	}
	if c, ok := x.s.Closed(); !same(c, x.closing) || ok != (x.closing != nil) {
		t.Fatalf("%s: Closed: %v, %t, not %v", what, c.List(), ok, x.closing)
	}
	want := x.kept()
	l := x.s.Held()
	if !slices.EqualFunc(l, want, same) || slices.Contains(l, nil) {
		t.Fatalf("%s: Held: %v, not %v", what, lists(l), want)
	}
	if len(l) > 2*x.size+2 {
		t.Fatalf("%s: %d clocks are kept", what, len(l))
	}
}

func lists(l []*clock.Clock) [][]int {
	var out [][]int
	for _, c := range l {
		out = append(out, c.List())
	}
	return out
}

func (x *pair) send(t *testing.T) api.Errno {
	t.Helper()
	give := x.fresh()
	fetched, want := x.fetches(true), api.OK
	switch {
	case x.closing != nil:
		fetched, want = nil, api.ErrClosed
	case len(x.sent)-len(x.received) == max(1, x.size):
		fetched, want = nil, api.ErrFull
	default:
		x.sent = append(x.sent, give)
	}
	if c, errno := x.s.Send(of(t, give...)); !same(c, fetched) || errno != want {
		t.Fatalf("Send %d: %v, %v, not %v, %v", len(x.sent), c.List(), errno, fetched, want)
	}
	x.holds(t, "behind Send")
	return want
}

func (x *pair) recv(t *testing.T) api.Errno {
	t.Helper()
	give := x.fresh()
	fetched, want := x.fetches(false), api.OK
	if len(x.sent) == len(x.received) {
		fetched, want = nil, api.ErrNone
	} else {
		x.received = append(x.received, give)
	}
	if c, errno := x.s.Recv(of(t, give...)); !same(c, fetched) || errno != want {
		t.Fatalf("Recv %d: %v, %v, not %v, %v", len(x.received), c.List(), errno, fetched, want)
	}
	x.holds(t, "behind Recv")
	return want
}

func (x *pair) shut(t *testing.T) api.Errno {
	t.Helper()
	give, want := x.fresh(), api.OK
	if x.closing != nil {
		want = api.ErrClosed
	} else {
		x.closing = give
	}
	if errno := x.s.Close(of(t, give...)); errno != want {
		t.Fatalf("Close: %v, not %v", errno, want)
	}
	x.holds(t, "behind Close")
	return want
}

func (x *pair) drop(t *testing.T, tid int) {
	t.Helper()
	for _, c := range x.kept() {
		if tid >= 0 && tid < len(c) {
			c[tid] = 0
		}
	}
	x.s.Drop(tid)
	x.holds(t, "behind Drop")
}

func TestNew(t *testing.T) {
	for size := 0; size <= mostSize; size++ {
		newPair(t, size).holds(t, "New")
	}
	for _, size := range []int{math.MinInt, -mostSize, -1, mostSize + 1, mostSize + 2, 1 << 32, math.MaxInt} {
		if s, errno := slots.New(size); s != nil || errno != api.ErrArg {
			t.Errorf("New(%d): %v, %v, not ErrArg", size, s, errno)
		}
	}
}

func TestExample(t *testing.T) {
	s := empty(t, 1)
	a, b, c := of(t, 1), of(t, 0, 2), of(t, 0, 0, 3)
	if got, errno := s.Send(a); got != nil || errno != api.OK {
		t.Errorf("Send a: %v, %v", got.List(), errno)
	}
	if got, errno := s.Recv(b); !same(got, []int{1}) || errno != api.OK {
		t.Errorf("Recv b: %v, %v", got.List(), errno)
	}
	if got, errno := s.Send(c); !same(got, []int{0, 2}) || errno != api.OK {
		t.Errorf("Send c: %v, %v", got.List(), errno)
	}
	if l := s.Held(); len(l) != 1 || !same(l[0], []int{0, 0, 3}) {
		t.Errorf("Held: %v", lists(l))
	}
}

// TestAllPathsOfSevenCalls goes each way of sends, receives, closings and droppings, with each capacity: seven calls are
// enough for the greatest one to be full, and for a send to fetch what a receive gave.
func TestAllPathsOfSevenCalls(t *testing.T) {
	const calls, kinds = 7, 4
	paths := 1
	for range calls {
		paths *= kinds
	}
	for size := 0; size <= mostSize; size++ {
		for path := range paths {
			x := newPair(t, size)
			for i, rest := 0, path; i < calls; i, rest = i+1, rest/kinds {
				switch rest % kinds {
				case 0:
					x.send(t)
				case 1:
					x.recv(t)
				case 2:
					x.shut(t)
				default:
					x.drop(t, i%3)
				}
			}
		}
	}
}

func TestLongDrawnPaths(t *testing.T) {
	draw := rand.New(rand.NewSource(15))
	for size := 0; size <= mostSize; size++ {
		for range 60 {
			x := newPair(t, size)
			sends := 1 + draw.Intn(9) // of ten calls: some paths are full most of the time, some empty
			for i := range 150 {
				switch n := draw.Intn(100); {
				case n == 0 && i > 50:
					x.shut(t)
				case n < 5:
					x.drop(t, draw.Intn(3))
				case draw.Intn(10) < sends:
					x.send(t)
				default:
					x.recv(t)
				}
			}
		}
	}
}

// TestRoomThatWasThere: the first sends take room that nobody made, also if something was received ahead of them.
func TestRoomThatWasThere(t *testing.T) {
	for size := 1; size <= mostSize; size++ {
		x := newPair(t, size)
		for k := range 3 * size {
			if _, ok := x.s.Peek(true); ok != (k >= size) {
				t.Errorf("size %d: the send %d fetches something: %t", size, k, ok)
			}
			if x.send(t) != api.OK || x.recv(t) != api.OK {
				t.Fatalf("size %d: no room for the send %d", size, k)
			}
		}
	}
}

func TestFull(t *testing.T) {
	for size := 0; size <= mostSize; size++ {
		x := newPair(t, size)
		for range max(1, size) {
			if errno := x.send(t); errno != api.OK {
				t.Errorf("size %d: Send: %v", size, errno)
			}
		}
		for range 3 {
			if errno := x.send(t); errno != api.ErrFull {
				t.Errorf("size %d: Send: %v, not ErrFull", size, errno)
			}
		}
		x.recv(t)
		if errno := x.send(t); errno != api.OK {
			t.Errorf("size %d: Send behind Recv: %v", size, errno)
		}
	}
}

// TestWithoutABuffer: what a receive gives is fetched by nobody, so it is not kept.
func TestWithoutABuffer(t *testing.T) {
	x := newPair(t, 0)
	for range 5 {
		x.send(t)
		if x.recv(t); len(x.s.Held()) != 0 {
			t.Errorf("Held: %v", lists(x.s.Held()))
		}
	}
}

// TestClosed: what was sent is received yet; a full channel that is closed is closed first of all.
func TestClosed(t *testing.T) {
	for size := 0; size <= mostSize; size++ {
		x := newPair(t, size)
		x.send(t)
		x.recv(t)
		for range max(1, size) {
			x.send(t)
		}
		x.shut(t)
		if errno := x.send(t); errno != api.ErrClosed {
			t.Errorf("size %d: Send: %v, not ErrClosed", size, errno)
		}
		if errno := x.shut(t); errno != api.ErrClosed {
			t.Errorf("size %d: Close: %v, not ErrClosed", size, errno)
		}
		for range max(1, size) {
			if errno := x.recv(t); errno != api.OK {
				t.Errorf("size %d: Recv: %v", size, errno)
			}
		}
		if errno := x.recv(t); errno != api.ErrNone {
			t.Errorf("size %d: Recv: %v, not ErrNone", size, errno)
		}
		x.drop(t, 0)
	}
}

// TestClosedKeepsWhatReceivesGave: no send comes any longer, but what was not fetched is kept, and is the next one's.
func TestClosedKeepsWhatReceivesGave(t *testing.T) {
	s := empty(t, 1)
	s.Send(of(t, 1))
	s.Recv(of(t, 2))
	s.Close(of(t, 3))
	if c, ok := s.Peek(true); !same(c, []int{2}) || !ok {
		t.Errorf("Peek: %v, %t", c.List(), ok)
	}
	if l := s.Held(); len(l) != 2 || !same(l[0], []int{2}) || !same(l[1], []int{3}) {
		t.Errorf("Held: %v", lists(l))
	}
}

func TestNilIsAClockOfNoughts(t *testing.T) {
	s := empty(t, 1)
	if c, errno := s.Send(nil); c != nil || errno != api.OK {
		t.Errorf("Send: %v, %v", c, errno)
	}
	if c, ok := s.Peek(false); !same(c, []int{}) || !ok {
		t.Errorf("Peek: %v, %t", c, ok)
	}
	if c, errno := s.Recv(nil); !same(c, []int{}) || errno != api.OK {
		t.Errorf("Recv: %v, %v", c, errno)
	}
	if c, errno := s.Send(nil); !same(c, []int{}) || errno != api.OK {
		t.Errorf("Send: %v, %v", c, errno)
	}
	if errno := s.Close(nil); errno != api.OK {
		t.Errorf("Close: %v", errno)
	}
	if c, ok := s.Closed(); !same(c, []int{}) || !ok {
		t.Errorf("Closed: %v, %t", c, ok)
	}
	if l := s.Held(); len(l) != 2 || slices.Contains(l, nil) {
		t.Errorf("Held: %v", l)
	}
	if errno := s.Close(nil); errno != api.ErrClosed {
		t.Errorf("Close: %v, not ErrClosed", errno)
	}
}

func TestDropOfAllTids(t *testing.T) {
	numbers := make([]int, 256)
	for tid := range numbers {
		numbers[tid] = 1 + tid
	}
	for tid := range numbers {
		x := newPair(t, 2)
		for _, give := range []func(*clock.Clock) (*clock.Clock, api.Errno){x.s.Send, x.s.Recv, x.s.Send} {
			give(of(t, numbers...))
		}
		x.s.Close(of(t, numbers...))
		x.sent = [][]int{nil, slices.Clone(numbers)}
		x.received, x.closing = [][]int{slices.Clone(numbers)}, slices.Clone(numbers)
		x.holds(t, "ahead of Drop")
		x.drop(t, tid)
		x.drop(t, tid)
	}
}

func TestDropOfNoTid(t *testing.T) {
	x := newPair(t, 3)
	for range 3 {
		x.send(t)
	}
	x.recv(t)
	x.shut(t)
	for _, tid := range append(noTids, 3, 255) { // at the last two nobody has a number
		x.drop(t, tid)
	}
}

// TestDropIsOfWhatIsKept: neither what was given nor what was fetched is changed by it.
func TestDropIsOfWhatIsKept(t *testing.T) {
	s := empty(t, 2)
	give := of(t, 4, 5)
	s.Send(give)
	s.Send(give)
	fetched, _ := s.Recv(give)
	peeked, _ := s.Peek(false)
	s.Close(give)
	closing, _ := s.Closed()
	held := s.Held()
	s.Drop(1)
	for _, c := range append(held, give, fetched, peeked, closing) {
		if !same(c, []int{4, 5}) {
			t.Errorf("%v", c.List())
		}
	}
}

// spoil has a clock have other numbers.
func spoil(c *clock.Clock) {
	for tid := range 5 {
		c.Set(tid, 999)
	}
}

// TestNothingIsShared: neither what is done to a clock that was given, nor what is done to an answer, is seen.
func TestNothingIsShared(t *testing.T) {
	x := newPair(t, 2)
	gives := []*clock.Clock{of(t, 1, 1), of(t, 2, 2), of(t, 3, 3), of(t, 4, 4), of(t, 5, 5)}
	x.s.Send(gives[0])
	fetched, _ := x.s.Recv(gives[1])
	x.s.Send(gives[2])
	x.s.Send(gives[3])
	x.s.Close(gives[4])
	x.sent = [][]int{{1, 1}, {3, 3}, {4, 4}}
	x.received, x.closing = [][]int{{2, 2}}, []int{5, 5}
	x.holds(t, "as given")
	for _, c := range append(gives, fetched) {
		spoil(c)
	}
	x.holds(t, "behind other numbers of what was given, and of what was fetched")
	for _, send := range []bool{true, false} {
		c, _ := x.s.Peek(send)
		spoil(c)
	}
	c, _ := x.s.Closed()
	spoil(c)
	x.holds(t, "behind other numbers of answers")
	a, b := x.s.Held(), x.s.Held()
	for i := range a {
		spoil(a[i])
	}
	if want := x.kept(); !slices.EqualFunc(b, want, same) {
		t.Errorf("Held: %v, not %v", lists(b), want)
	}
	for _, l := range [][]*clock.Clock{a[:cap(a)], b[:cap(b)]} {
		for i := range l {
			l[i] = gives[0]
		}
	}
	x.holds(t, "behind other clocks in Held's list")
	x.recv(t)
	x.recv(t)
}

// TestOneClockGivenTwice: each giving keeps a copy of its own.
func TestOneClockGivenTwice(t *testing.T) {
	s := empty(t, 2)
	c := of(t, 1)
	s.Send(c)
	c.Set(0, 2)
	s.Send(c)
	a, _ := s.Recv(c)
	spoil(a)
	if b, _ := s.Recv(c); !same(b, []int{2}) {
		t.Errorf("Recv: %v", b.List())
	}
}

func TestNilSlots(t *testing.T) {
	var s *slots.Slots
	c := of(t, 1)
	if got, errno := s.Send(c); got != nil || errno != api.ErrState {
		t.Errorf("Send: %v, %v", got, errno)
	}
	if got, errno := s.Recv(c); got != nil || errno != api.ErrState {
		t.Errorf("Recv: %v, %v", got, errno)
	}
	if errno := s.Close(c); errno != api.ErrState {
		t.Errorf("Close: %v", errno)
	}
	for _, send := range []bool{true, false} {
		if got, ok := s.Peek(send); got != nil || ok {
			t.Errorf("Peek(%t): %v, %t", send, got, ok)
		}
	}
	if got, ok := s.Closed(); got != nil || ok {
		t.Errorf("Closed: %v, %t", got, ok)
	}
	if a, b := s.Counts(); a != 0 || b != 0 {
		t.Errorf("Counts: %d, %d", a, b)
	}
	if l := s.Held(); len(l) != 0 {
		t.Errorf("Held: %v", l)
	}
	for _, tid := range append(noTids, 0, 255) {
		s.Drop(tid)
	}
}
