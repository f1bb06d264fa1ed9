package pipe_test

import (
	"math"
	"math/rand/v2"
	"slices"
	"testing"

	"staithe/api"
	"staithe/pew"
	"staithe/pipe"
)

// most is how many may stand in a pew, as the document says.
const most = 1024

func fresh(t *testing.T, size int) *pipe.Pipe {
	t.Helper()
	p, errno := pipe.New(size)
	if p == nil || errno != api.OK {
		t.Fatalf("New(%d): %v", size, errno)
	}
	return p
}

// pair is a pipe beside plain lists of what it must hold, and of all values that it told to have come in, and out.
type pair struct {
	p               *pipe.Pipe
	size            int
	closed          bool
	buffer          []int
	senders, takers []pew.Waiter
	sends, receives int
	in, out         []int
}

func beside(t *testing.T, size int) *pair {
	t.Helper()
	x := &pair{p: fresh(t, size), size: size}
	x.holds(t, "New")
	return x
}

func (x *pair) ready(send bool) bool {
	if send {
		return x.closed || len(x.takers) > 0 || len(x.buffer) < x.size
	}
	return x.closed || len(x.buffer) > 0 || len(x.senders) > 0
}

// holds asks a pipe all that can be asked without changing it.
func (x *pair) holds(t *testing.T, what string) {
	t.Helper()
	if x.p.Len() != len(x.buffer) || x.p.Cap() != x.size || x.p.Closed() != x.closed {
		t.Fatalf("%s: Len %d, Cap %d, Closed %t, not %d, %d, %t", what, x.p.Len(), x.p.Cap(), x.p.Closed(), len(x.buffer), x.size, x.closed)
	}
	if a, b := x.p.Counts(); a != x.sends || b != x.receives {
		t.Fatalf("%s: Counts: %d, %d, not %d, %d", what, a, b, x.sends, x.receives)
	}
	if l := x.p.Waiting(true); !slices.Equal(l, x.senders) {
		t.Fatalf("%s: Waiting(true): %v, not %v", what, l, x.senders)
	}
	if l := x.p.Waiting(false); !slices.Equal(l, x.takers) {
		t.Fatalf("%s: Waiting(false): %v, not %v", what, l, x.takers)
	}
	if x.p.Ready(true) != x.ready(true) || x.p.Ready(false) != x.ready(false) {
		t.Fatalf("%s: Ready: %t, %t, not %t, %t", what, x.p.Ready(true), x.p.Ready(false), x.ready(true), x.ready(false))
	}
	x.follows(t, what)
}

// follows asks for 9.3 and 9.4, by what the pipe itself tells.
func (x *pair) follows(t *testing.T, what string) {
	t.Helper()
	if len(x.out) > len(x.in) || !slices.Equal(x.out, x.in[:len(x.out)]) {
		t.Fatalf("%s: sent %v, received %v", what, x.in, x.out)
	}
	if a, b := x.p.Counts(); a != len(x.in) || b != len(x.out) {
		t.Fatalf("%s: Counts: %d, %d; sent %v, received %v", what, a, b, x.in, x.out)
	}
	senders, takers := x.p.Waiting(true), x.p.Waiting(false)
	if len(takers) > 0 && x.p.Len() > 0 {
		t.Fatalf("%s: %v wait to receive beside %d values", what, takers, x.p.Len())
	}
	if len(senders) > 0 && x.p.Len() < x.p.Cap() {
		t.Fatalf("%s: %v wait to send beside room", what, senders)
	}
	for _, s := range senders {
		for _, r := range takers {
			if s.G != r.G {
				t.Fatalf("%s: %v wait to send, %v to receive", what, senders, takers)
			}
		}
	}
}

func first[E any](l *[]E) E {
	e := (*l)[0]
	*l = (*l)[1:]
	return e
}

func (x *pair) send(t *testing.T, v int) {
	t.Helper()
	var want pipe.Got
	wantErrno := api.OK
	switch {
	case x.closed:
		wantErrno = api.ErrClosed
	case len(x.takers) > 0:
		want = pipe.Got{Ready: true, Woke: true, Mate: first(&x.takers)}
		x.sends++
		x.receives++
	case len(x.buffer) < x.size:
		want.Ready = true
		x.buffer = append(x.buffer, v)
		x.sends++
	}
	got, errno := x.p.Send(v)
	if got != want || errno != wantErrno {
		t.Fatalf("Send(%d): %+v, %v, not %+v, %v", v, got, errno, want, wantErrno)
	}
	if got.Ready {
		x.in = append(x.in, v)
	}
	if got.Woke {
		x.out = append(x.out, v)
	}
	x.holds(t, "behind Send")
}

func (x *pair) recv(t *testing.T) {
	t.Helper()
	var want pipe.Got
	switch {
	case len(x.buffer) > 0:
		want = pipe.Got{Ready: true, OK: true, Value: first(&x.buffer)}
		if len(x.senders) > 0 {
			want.Woke, want.Mate = true, first(&x.senders)
			x.buffer = append(x.buffer, want.Mate.Value)
			x.sends++
		}
		x.receives++
	case len(x.senders) > 0:
		mate := first(&x.senders)
		want = pipe.Got{Ready: true, OK: true, Value: mate.Value, Woke: true, Mate: mate}
		x.sends++
		x.receives++
	case x.closed:
		want.Ready = true
	}
	got := x.p.Recv()
	if got != want {
		t.Fatalf("Recv: %+v, not %+v", got, want)
	}
	if got.Woke {
		x.in = append(x.in, got.Mate.Value)
	}
	if got.OK {
		x.out = append(x.out, got.Value)
	}
	x.holds(t, "behind Recv")
}

func (x *pair) wait(t *testing.T, send bool, w pew.Waiter) {
	t.Helper()
	own, other := &x.takers, x.senders
	ready := x.closed || len(x.buffer) > 0
	if send {
		own, other = &x.senders, x.takers
		ready = x.closed || len(x.buffer) < x.size
	}
	for _, o := range other {
		ready = ready || o.G != w.G
	}
	want := api.OK
	switch {
	case ready:
		want = api.ErrState
	case w.G < 0 || w.Case < -1:
		want = api.ErrArg
	case len(*own) == most:
		want = api.ErrFull
	default:
		*own = append(*own, w)
	}
	if errno := x.p.Wait(send, w); errno != want {
		t.Fatalf("Wait(%t, %v): %v, not %v", send, w, errno, want)
	}
	x.holds(t, "behind Wait")
}

func (x *pair) close(t *testing.T) {
	t.Helper()
	want := api.OK
	var takers, senders []pew.Waiter
	if x.closed {
		want = api.ErrClosed
	} else {
		takers, senders = x.takers, x.senders
		x.takers, x.senders = nil, nil
		x.closed = true
	}
	a, b, errno := x.p.Close()
	if !slices.Equal(a, takers) || !slices.Equal(b, senders) || errno != want {
		t.Fatalf("Close: %v, %v, %v, not %v, %v, %v", a, b, errno, takers, senders, want)
	}
	x.holds(t, "behind Close")
}

func (x *pair) drop(t *testing.T, g int) {
	t.Helper()
	before := len(x.senders) + len(x.takers)
	of := func(w pew.Waiter) bool { return w.G == g }
	x.senders = slices.DeleteFunc(slices.Clone(x.senders), of)
	x.takers = slices.DeleteFunc(slices.Clone(x.takers), of)
	gone := before - len(x.senders) - len(x.takers)
	if n := x.p.Drop(g); n != gone {
		t.Fatalf("Drop(%d): %d, not %d", g, n, gone)
	}
	x.holds(t, "behind Drop")
}

// ways is how many things do does.
const ways = 9

func (x *pair) do(t *testing.T, way, v int) {
	t.Helper()
	switch way {
	case 0:
		x.send(t, v)
	case 1:
		x.recv(t)
	case 2, 3:
		x.wait(t, true, pew.Waiter{G: way - 2, Case: v%3 - 1, Value: v})
	case 4, 5:
		x.wait(t, false, pew.Waiter{G: way - 4, Case: v%3 - 1})
	case 6, 7:
		x.drop(t, way-6)
	default:
		x.close(t)
	}
}

func TestNew(t *testing.T) {
	for size := 0; size <= api.MaxCap; size++ {
		beside(t, size)
	}
	for _, size := range []int{math.MinInt, -1, api.MaxCap + 1, 1 << 32, math.MaxInt} {
		if p, errno := pipe.New(size); p != nil || errno != api.ErrArg {
			t.Errorf("New(%d): %v, %v, not ErrArg", size, p, errno)
		}
	}
}

func TestExample(t *testing.T) {
	p := fresh(t, 1)
	if got, errno := p.Send(5); got != (pipe.Got{Ready: true}) || errno != api.OK || p.Len() != 1 {
		t.Errorf("Send(5): %+v, %v", got, errno)
	}
	if got, errno := p.Send(6); got != (pipe.Got{}) || errno != api.OK {
		t.Errorf("Send(6): %+v, %v", got, errno)
	}
	sender := pew.Waiter{G: 1, Case: -1, Value: 6}
	if errno := p.Wait(true, sender); errno != api.OK {
		t.Errorf("Wait: %v", errno)
	}
	if got := p.Recv(); got != (pipe.Got{Ready: true, OK: true, Value: 5, Woke: true, Mate: sender}) {
		t.Errorf("Recv: %+v", got)
	}
	if got := p.Recv(); got != (pipe.Got{Ready: true, OK: true, Value: 6}) {
		t.Errorf("Recv: %+v", got)
	}
}

// TestAllPathsOfFiveCalls goes each way of five calls, from each filling of the capacities 0 to 2 on; greater ones are
// gone through by TestLongPaths.
func TestAllPathsOfFiveCalls(t *testing.T) {
	const calls = 5
	paths := 1
	for range calls {
		paths *= ways
	}
	for size := range 3 {
		for fill := range size + 1 {
			for path := range paths {
				x := beside(t, size)
				for v := range fill {
					x.send(t, v)
				}
				for i, rest := 0, path; i < calls; i, rest = i+1, rest/ways {
					x.do(t, rest%ways, 10+i)
				}
			}
		}
	}
}

// TestLongPaths goes long ways that are drawn from a fixed seed, with all capacities; closing is rare, so that much
// happens ahead of it.
func TestLongPaths(t *testing.T) {
	draw := rand.New(rand.NewPCG(9, 10))
	for round := range 400 {
		x := beside(t, round%(api.MaxCap+1))
		for i := range 300 {
			way := draw.IntN(ways)
			if way == ways-1 && draw.IntN(20) > 0 {
				way = draw.IntN(2)
			}
			x.do(t, way, i)
		}
	}
}

// TestAsGoHasIt holds tries, and closing, against a channel of Go's own, as long as nobody waits.
func TestAsGoHasIt(t *testing.T) {
	const calls = 9
	for size := 0; size <= api.MaxCap; size++ {
		for path := range 1 << calls {
			for end := range calls + 1 {
				p, c := fresh(t, size), make(chan int, size)
				for i := range calls {
					if i == end {
						close(c)
						p.Close()
					}
					if path>>i&1 == 1 {
						trySend(t, p, c, i, i >= end)
					} else {
						tryRecv(t, p, c)
					}
				}
			}
		}
	}
}

func trySend(t *testing.T, p *pipe.Pipe, c chan int, v int, closed bool) {
	t.Helper()
	got, errno := p.Send(v)
	if closed {
		if got != (pipe.Got{}) || errno != api.ErrClosed {
			t.Fatalf("Send to a closed pipe: %+v, %v", got, errno)
		}
		return
	}
	want := pipe.Got{}
	select {
	case c <- v:
		want.Ready = true
	default:
	}
	if got != want || errno != api.OK || p.Len() != len(c) {
		t.Fatalf("Send: %+v, %v, not %+v", got, errno, want)
	}
}

func tryRecv(t *testing.T, p *pipe.Pipe, c chan int) {
	t.Helper()
	want := pipe.Got{}
	select {
	case v, ok := <-c:
		want = pipe.Got{Ready: true, OK: ok, Value: v}
	default:
	}
	if got := p.Recv(); got != want || p.Len() != len(c) {
		t.Fatalf("Recv: %+v, not %+v", got, want)
	}
}

func TestFirstWaiterFirst(t *testing.T) {
	x := beside(t, 2)
	for g := range 4 {
		x.wait(t, false, pew.Waiter{G: g, Case: g - 1, Value: 50 + g})
	}
	x.drop(t, 1)
	for v := range 6 {
		x.send(t, 10+v) // three are handed on, two are kept, one must wait
	}
	for g := range 4 {
		x.wait(t, true, pew.Waiter{G: g, Case: -1, Value: 20 + g})
	}
	x.drop(t, 2)
	for range 6 {
		x.recv(t)
	}
	if want := []int{10, 11, 12, 13, 14, 20, 21, 23}; !slices.Equal(x.out, want) {
		t.Errorf("received: %v, not %v", x.out, want)
	}
}

// TestOneGoroutineInBothPews: what a select of sends and receives of one channel does, and nobody else may.
func TestOneGoroutineInBothPews(t *testing.T) {
	for _, send := range []bool{true, false} {
		x := beside(t, 0)
		x.wait(t, send, pew.Waiter{G: 1, Case: 0, Value: 7})
		x.wait(t, !send, pew.Waiter{G: 1, Case: 1, Value: 8})
		x.wait(t, send, pew.Waiter{G: 1, Case: 2, Value: 9})
		if len(x.senders) == 0 || len(x.takers) == 0 || !x.p.Ready(true) || !x.p.Ready(false) {
			t.Fatalf("waiting: %v, %v", x.senders, x.takers)
		}
		x.wait(t, send, pew.Waiter{G: 2})
		x.wait(t, !send, pew.Waiter{G: 2})
		if len(x.senders)+len(x.takers) != 3 {
			t.Fatalf("another one waits beside: %v, %v", x.senders, x.takers)
		}
		x.send(t, 5)
		x.drop(t, 1)
		x.recv(t)
	}
	x := beside(t, 0)
	x.wait(t, true, pew.Waiter{G: 1})
	x.wait(t, true, pew.Waiter{G: 2})
	x.wait(t, false, pew.Waiter{G: 1}) // its own waiter stands first, but another one's is there
	if len(x.takers) != 0 {
		t.Errorf("waits to receive, though one sends: %v", x.takers)
	}
}

// TestNobodyWaitsWhoNeedNot: beside a value, or room, or behind a closing, nobody may wait, also of a goroutine that does.
func TestNobodyWaitsWhoNeedNot(t *testing.T) {
	x := beside(t, 1)
	x.wait(t, true, pew.Waiter{G: 1})
	x.send(t, 3)
	x.wait(t, true, pew.Waiter{G: 1, Value: 4})
	x.wait(t, false, pew.Waiter{G: 1})
	x.close(t)
	x.wait(t, true, pew.Waiter{G: 1})
	x.wait(t, false, pew.Waiter{G: 1})
	if len(x.senders)+len(x.takers) != 0 {
		t.Errorf("waiting: %v, %v", x.senders, x.takers)
	}
}

// wrong are waiters that no pew takes.
func wrong() []pew.Waiter {
	return []pew.Waiter{{G: -1}, {G: math.MinInt, Case: -1}, {G: 3, Case: -2}, {Case: math.MinInt}, {G: -1, Case: -2, Value: 4}}
}

func TestWaitOfWrongWaiters(t *testing.T) {
	for _, send := range []bool{true, false} {
		for _, w := range wrong() {
			x := beside(t, 0)
			if errno := x.p.Wait(send, w); errno != api.ErrArg {
				t.Errorf("Wait(%t, %v): %v, not ErrArg", send, w, errno)
			}
			x.holds(t, "behind ErrArg")
			x.wait(t, send, pew.Waiter{G: 0, Case: -1, Value: math.MinInt})
			x.wait(t, send, w)
			x.close(t)
			if errno := x.p.Wait(send, w); errno != api.ErrState {
				t.Errorf("Wait(%t, %v) of a closed pipe: %v, not ErrState, which is told first", send, w, errno)
			}
			x.holds(t, "behind ErrState")
		}
	}
}

func TestWaitInAFullPew(t *testing.T) {
	for _, send := range []bool{true, false} {
		x := beside(t, 0)
		for i := range most {
			w := pew.Waiter{G: i, Case: -1, Value: i}
			if errno := x.p.Wait(send, w); errno != api.OK {
				t.Fatalf("Wait beside %d: %v", i, errno)
			}
			if send {
				x.senders = append(x.senders, w)
			} else {
				x.takers = append(x.takers, w)
			}
		}
		if errno := x.p.Wait(send, pew.Waiter{G: 5}); errno != api.ErrFull {
			t.Errorf("Wait(%t) in a full pew: %v, not ErrFull", send, errno)
		}
		x.holds(t, "behind ErrFull")
		x.wait(t, !send, pew.Waiter{G: 5})
		x.drop(t, 5)
		x.wait(t, send, pew.Waiter{G: 5})
		x.close(t)
	}
}

func TestCloseTellsWhoWaited(t *testing.T) {
	for size := 0; size <= api.MaxCap; size++ {
		takers := beside(t, size)
		senders := beside(t, size)
		for v := range size {
			senders.send(t, v)
		}
		for _, g := range []int{3, 1, 3, 2} {
			takers.wait(t, false, pew.Waiter{G: g, Case: g})
			senders.wait(t, true, pew.Waiter{G: g, Case: -1, Value: 40 + g})
		}
		for _, x := range []*pair{takers, senders} {
			x.close(t)
			x.close(t)
			x.send(t, 9)
			x.drop(t, 3)
			for range size + 2 {
				x.recv(t)
			}
			x.close(t)
		}
	}
	both := beside(t, 0)
	both.wait(t, false, pew.Waiter{G: 4, Case: 0})
	both.wait(t, true, pew.Waiter{G: 4, Case: 1, Value: 6})
	both.close(t)
}

func TestAllNumbersAreValues(t *testing.T) {
	values := []int{math.MinInt, -1, 0, math.MaxInt}
	x := beside(t, len(values))
	for _, v := range values {
		x.send(t, v)
	}
	for _, v := range values {
		x.wait(t, true, pew.Waiter{G: math.MaxInt, Case: math.MaxInt, Value: v})
	}
	for range 2*len(values) + 1 {
		x.recv(t)
	}
}

func TestDropOfNobody(t *testing.T) {
	for _, g := range []int{math.MinInt, -1, 0, 4, math.MaxInt} {
		x := beside(t, 0)
		x.drop(t, g)
		x.wait(t, true, pew.Waiter{G: 1})
		x.wait(t, true, pew.Waiter{G: 2})
		x.drop(t, g)
	}
}

// spoil writes over all of a list, spare room too.
func spoil(l []pew.Waiter) {
	l = l[:cap(l)]
	for i := range l {
		l[i] = pew.Waiter{G: 77}
	}
}

func TestListsAreNewMemory(t *testing.T) {
	x := beside(t, 0)
	for g := range 3 {
		x.wait(t, true, pew.Waiter{G: g, Value: g})
	}
	spoil(x.p.Waiting(true))
	spoil(x.p.Waiting(false))
	x.holds(t, "behind changes of lists")
	before := x.p.Waiting(true)
	x.recv(t)
	if len(before) != 3 || before[0] != (pew.Waiter{}) {
		t.Errorf("a list changed with its pipe: %v", before)
	}
	x.drop(t, 1)
	x.wait(t, false, pew.Waiter{G: 2})
	x.drop(t, 0)
	x.wait(t, false, pew.Waiter{G: 2})
	a, b, _ := x.p.Close()
	spoil(a)
	if !slices.Equal(b, []pew.Waiter{{G: 2, Value: 2}}) {
		t.Errorf("senders changed with receivers: %v", b)
	}
}

func TestPipesAreApart(t *testing.T) {
	a, b := beside(t, 1), beside(t, 1)
	a.send(t, 1)
	b.wait(t, false, pew.Waiter{G: 1})
	a.wait(t, true, pew.Waiter{G: 1, Value: 2})
	a.close(t)
	b.holds(t, "behind another one's closing")
	b.send(t, 3)
	a.holds(t, "behind another one's send")
}

func TestNilPipe(t *testing.T) {
	var p *pipe.Pipe
	nothing := &pair{p: p}
	for range 2 {
		if got, errno := p.Send(1); got != (pipe.Got{}) || errno != api.OK {
			t.Errorf("Send: %+v, %v", got, errno)
		}
		if got := p.Recv(); got != (pipe.Got{}) {
			t.Errorf("Recv: %+v", got)
		}
		for _, send := range []bool{true, false} {
			if errno := p.Wait(send, pew.Waiter{G: 1, Case: -1, Value: 5}); errno != api.OK {
				t.Errorf("Wait(%t): %v", send, errno)
			}
			for _, w := range wrong() {
				if errno := p.Wait(send, w); errno != api.ErrArg {
					t.Errorf("Wait(%t, %v): %v, not ErrArg", send, w, errno)
				}
			}
			if p.Ready(send) {
				t.Errorf("Ready(%t)", send)
			}
		}
		if a, b, errno := p.Close(); len(a) != 0 || len(b) != 0 || errno != api.ErrNone {
			t.Errorf("Close: %v, %v, %v", a, b, errno)
		}
		if n := p.Drop(1); n != 0 {
			t.Errorf("Drop: %d", n)
		}
		nothing.holds(t, "nil")
	}
}
