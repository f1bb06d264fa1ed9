package fork_test

import (
	"math"
	"math/rand/v2"
	"slices"
	"testing"

	"staithe/api"
	"staithe/fork"
	"staithe/pew"
	"staithe/pipe"
)

// most is how many may stand in a pew, as the document says.
const most = 1024

// filled is a pipe of a capacity, with values from 10 on.
func filled(t *testing.T, size, values int) *pipe.Pipe {
	t.Helper()
	p, errno := pipe.New(size)
	if errno != api.OK {
		t.Fatalf("New(%d): %v", size, errno)
	}
	for v := range values {
		if got, errno := p.Send(10 + v); !got.Ready || errno != api.OK {
			t.Fatalf("Send: %+v, %v", got, errno)
		}
	}
	return p
}

func closed(t *testing.T, p *pipe.Pipe) *pipe.Pipe {
	t.Helper()
	if _, _, errno := p.Close(); errno != api.OK {
		t.Fatalf("Close: %v", errno)
	}
	return p
}

func waits(t *testing.T, p *pipe.Pipe, send bool, w pew.Waiter) *pipe.Pipe {
	t.Helper()
	if errno := p.Wait(send, w); errno != api.OK {
		t.Fatalf("Wait(%t, %v): %v", send, w, errno)
	}
	return p
}

// kind is how a pipe may be: how to make one, and whether it is ready.
type kind struct {
	name       string
	make       func(t *testing.T) *pipe.Pipe
	send, recv bool
}

func kinds() []kind {
	return []kind{
		{"nil", func(t *testing.T) *pipe.Pipe { return nil }, false, false},
		{"without a buffer", func(t *testing.T) *pipe.Pipe { return filled(t, 0, 0) }, false, false},
		{"empty", func(t *testing.T) *pipe.Pipe { return filled(t, 2, 0) }, true, false},
		{"half full", func(t *testing.T) *pipe.Pipe { return filled(t, 2, 1) }, true, true},
		{"full", func(t *testing.T) *pipe.Pipe { return filled(t, 2, 2) }, false, true},
		{"closed", func(t *testing.T) *pipe.Pipe { return closed(t, filled(t, 2, 0)) }, true, true},
		{"a sender", func(t *testing.T) *pipe.Pipe {
			return waits(t, filled(t, 0, 0), true, pew.Waiter{G: 9, Case: -1, Value: 33})
		}, false, true},
		{"a receiver", func(t *testing.T) *pipe.Pipe { return waits(t, filled(t, 0, 0), false, pew.Waiter{G: 9, Case: 2}) }, true, false},
		{"full, with a sender", func(t *testing.T) *pipe.Pipe { return waits(t, filled(t, 1, 1), true, pew.Waiter{G: 9, Value: 34}) }, false, true},
	}
}

// all is a list of one pipe of each kind, by their places.
func all(t *testing.T) []*pipe.Pipe {
	t.Helper()
	var l []*pipe.Pipe
	for _, k := range kinds() {
		l = append(l, k.make(t))
	}
	return l
}

// ready tells by a table, not by the pipe, whether a case is.
func ready(c api.Case) bool {
	l := kinds()
	if c.Chan < 0 || c.Chan >= len(l) {
		return false
	}
	if c.Send {
		return l[c.Chan].send
	}
	return l[c.Chan].recv
}

// picture is all that can be asked of a pipe.
type picture struct {
	length, capacity, sends, receives int
	closed                            bool
	senders, receivers                []pew.Waiter
}

func pictures(pipes []*pipe.Pipe) []picture {
	var l []picture
	for _, p := range pipes {
		sends, receives := p.Counts()
		l = append(l, picture{p.Len(), p.Cap(), sends, receives, p.Closed(), p.Waiting(true), p.Waiting(false)})
	}
	return l
}

func same(t *testing.T, what string, pipes []*pipe.Pipe, want []picture) {
	t.Helper()
	for i, p := range pictures(pipes) {
		w := want[i]
		if !slices.Equal(p.senders, w.senders) || !slices.Equal(p.receivers, w.receivers) {
			t.Fatalf("%s: of pipe %d wait %v, %v, not %v, %v", what, i, p.senders, p.receivers, w.senders, w.receivers)
		}
		if p.length != w.length || p.capacity != w.capacity || p.sends != w.sends || p.receives != w.receives || p.closed != w.closed {
			t.Fatalf("%s: pipe %d: %+v, not %+v", what, i, p, w)
		}
	}
}

// strange are names that are in no list.
func strange() []int {
	return []int{math.MinInt, -1, len(kinds()), len(kinds()) + 1, math.MaxInt}
}

// singles are cases of each kind of pipe, and of strange names, both ways.
func singles() []api.Case {
	var l []api.Case
	for i := range kinds() {
		l = append(l, api.Case{Chan: i}, api.Case{Send: true, Chan: i, Value: 40 + i})
	}
	for _, name := range strange() {
		l = append(l, api.Case{Chan: name}, api.Case{Send: true, Chan: name, Value: 3})
	}
	return l
}

func TestExample(t *testing.T) {
	pipes := []*pipe.Pipe{filled(t, 1, 1), filled(t, 1, 1)}
	l := []api.Case{{Chan: 0}, {Send: true, Chan: 1, Value: 5}}
	if r := fork.Ready(l, pipes); !slices.Equal(r, []int{0}) {
		t.Errorf("Ready: %v", r)
	}
}

func TestReady(t *testing.T) {
	pipes := all(t)
	before := pictures(pipes)
	cases := singles()
	var want []int
	for i, c := range cases {
		if ready(c) {
			want = append(want, i)
		}
		if r := fork.Ready([]api.Case{c}, pipes); len(r) > 1 || (len(r) == 1) != ready(c) || len(r) == 1 && r[0] != 0 {
			t.Errorf("Ready of %+v: %v", c, r)
		}
	}
	if r := fork.Ready(cases, pipes); !slices.Equal(r, want) {
		t.Errorf("Ready: %v, not %v", r, want)
	}
	slices.Reverse(cases)
	for i, p := range want {
		want[i] = len(cases) - 1 - p
	}
	slices.Sort(want)
	if r := fork.Ready(cases, pipes); !slices.Equal(r, want) {
		t.Errorf("Ready, backwards: %v, not %v", r, want)
	}
	if r := fork.Ready(cases, nil); len(r) != 0 {
		t.Errorf("Ready without pipes: %v", r)
	}
	for _, none := range [][]api.Case{nil, {}} {
		if r := fork.Ready(none, pipes); len(r) != 0 {
			t.Errorf("Ready of no case: %v", r)
		}
	}
	same(t, "behind Ready", pipes, before)
}

// TestTry holds each case against the same call of a pipe of its own.
func TestTry(t *testing.T) {
	for _, c := range singles() {
		pipes, others := all(t), all(t)
		var other *pipe.Pipe
		if c.Chan >= 0 && c.Chan < len(others) {
			other = others[c.Chan]
		}
		var want pipe.Got
		errno := api.OK
		if c.Send {
			want, errno = other.Send(c.Value)
		} else {
			want = other.Recv()
		}
		if got, e := fork.Try(c, pipes); got != want || e != errno {
			t.Errorf("Try of %+v: %+v, %v, not %+v, %v", c, got, e, want, errno)
		}
		same(t, "behind Try", pipes, pictures(others))
		if ready(c) != (want.Ready || errno == api.ErrClosed) {
			t.Errorf("Try of %+v, ready %t: %+v, %v", c, ready(c), want, errno)
		}
	}
	if got, errno := fork.Try(api.Case{}, nil); got != (pipe.Got{}) || errno != api.OK {
		t.Errorf("Try without pipes: %+v, %v", got, errno)
	}
}

func TestTryTells(t *testing.T) {
	pipes := all(t)
	for _, x := range []struct {
		c    api.Case
		want pipe.Got
	}{
		{api.Case{Chan: 3}, pipe.Got{Ready: true, OK: true, Value: 10}},
		{api.Case{Chan: 5}, pipe.Got{Ready: true}},
		{api.Case{Chan: 6}, pipe.Got{Ready: true, OK: true, Value: 33, Woke: true, Mate: pew.Waiter{G: 9, Case: -1, Value: 33}}},
		{api.Case{Chan: 7, Send: true, Value: 2}, pipe.Got{Ready: true, Woke: true, Mate: pew.Waiter{G: 9, Case: 2}}},
		{api.Case{Chan: 8}, pipe.Got{Ready: true, OK: true, Value: 10, Woke: true, Mate: pew.Waiter{G: 9, Value: 34}}},
		{api.Case{Chan: 8}, pipe.Got{Ready: true, OK: true, Value: 34}},
		{api.Case{Chan: 8}, pipe.Got{}},
		{api.Case{Chan: 1, Send: true, Value: 2}, pipe.Got{}},
		{api.Case{Chan: 2, Send: true, Value: 7}, pipe.Got{Ready: true}},
		{api.Case{Chan: 2}, pipe.Got{Ready: true, OK: true, Value: 7}},
	} {
		if got, errno := fork.Try(x.c, pipes); got != x.want || errno != api.OK {
			t.Errorf("Try of %+v: %+v, %v, not %+v", x.c, got, errno, x.want)
		}
	}
	if got, errno := fork.Try(api.Case{Chan: 5, Send: true}, pipes); got != (pipe.Got{}) || errno != api.ErrClosed {
		t.Errorf("Try of a send to a closed pipe: %+v, %v", got, errno)
	}
}

// parked is what Park must do, by the pipes' pictures alone: what it answers, and the pictures then.
func parked(g int, l []api.Case, before []picture) (int, api.Errno, []picture) {
	if g < 0 || len(l) > api.MaxCases {
		return 0, api.ErrArg, before
	}
	if slices.ContainsFunc(l, ready) {
		return 0, api.ErrState, before
	}
	behind := slices.Clone(before)
	n := 0
	for i, c := range l {
		if c.Chan <= 0 || c.Chan >= len(behind) { // 0 is the nil one
			continue
		}
		w := pew.Waiter{G: g, Case: i, Value: c.Value}
		if c.Send {
			behind[c.Chan].senders = append(slices.Clone(behind[c.Chan].senders), w)
		} else {
			behind[c.Chan].receivers = append(slices.Clone(behind[c.Chan].receivers), w)
		}
		n++
	}
	return n, api.OK, behind
}

// park does it, and asks for 10.3.
func park(t *testing.T, g int, l []api.Case, pipes []*pipe.Pipe) {
	t.Helper()
	before := pictures(pipes)
	n, errno, behind := parked(g, l, before)
	if got, e := fork.Park(g, l, pipes); got != n || e != errno {
		t.Fatalf("Park(%d, %+v): %d, %v, not %d, %v", g, l, got, e, n, errno)
	}
	same(t, "behind Park", pipes, behind)
	if got := fork.Leave(g, pipes); got != n {
		t.Fatalf("Leave behind Park(%d, %+v): %d, not %d", g, l, got, n)
	}
	same(t, "behind Leave", pipes, before)
	if got := fork.Leave(g, pipes); got != 0 {
		t.Fatalf("Leave again: %d", got)
	}
}

func TestParkOfOneAndTwoCases(t *testing.T) {
	pipes := all(t)
	for _, a := range singles() {
		park(t, 1, []api.Case{a}, pipes)
		park(t, -1, []api.Case{a}, pipes)
		for _, b := range singles() {
			park(t, 1, []api.Case{a, b}, pipes)
		}
	}
	park(t, 0, nil, pipes)
	park(t, math.MaxInt, []api.Case{}, pipes)
	park(t, 0, []api.Case{{Chan: 1}}, nil)
}

func TestParkOfManyCases(t *testing.T) {
	pipes := all(t)
	cases := singles()
	wait := slices.DeleteFunc(singles(), ready)
	draw := rand.New(rand.NewPCG(10, 9))
	for round := range 20000 {
		from := wait
		if round%4 == 0 {
			from = cases
		}
		l := make([]api.Case, draw.IntN(api.MaxCases+1))
		for i := range l {
			l[i] = from[draw.IntN(len(from))]
		}
		park(t, draw.IntN(8), l, pipes)
	}
}

func TestParkOfWrongArguments(t *testing.T) {
	pipes := all(t)
	silent, loud := api.Case{Chan: 1}, api.Case{Chan: 4}
	for _, c := range []api.Case{silent, loud, {Chan: -1}} {
		four := []api.Case{c, c, c, c}
		park(t, 3, append(slices.Clone(four), c), pipes)
		park(t, 3, make([]api.Case, 1000), pipes)
		for _, g := range []int{-1, math.MinInt} {
			park(t, g, nil, pipes)
			park(t, g, four, pipes)
			park(t, g, append(slices.Clone(four), c), pipes)
		}
		park(t, 3, four, pipes)
	}
}

// TestParkInBothPews: one select that sends and receives on one channel waits in both pews, and is served once.
func TestParkInBothPews(t *testing.T) {
	both := []api.Case{{Chan: 0}, {Send: true, Chan: 0, Value: 1}, {Chan: 0}, {Send: true, Chan: 0, Value: 2}}
	pipes := []*pipe.Pipe{filled(t, 0, 0)}
	if n, errno := fork.Park(2, both, pipes); n != 4 || errno != api.OK {
		t.Fatalf("Park: %d, %v", n, errno)
	}
	if l := pipes[0].Waiting(true); !slices.Equal(l, []pew.Waiter{{G: 2, Case: 1, Value: 1}, {G: 2, Case: 3, Value: 2}}) {
		t.Errorf("senders: %v", l)
	}
	if l := pipes[0].Waiting(false); !slices.Equal(l, []pew.Waiter{{G: 2, Case: 0}, {G: 2, Case: 2}}) {
		t.Errorf("receivers: %v", l)
	}
	if n, errno := fork.Park(3, both, pipes); n != 0 || errno != api.ErrState {
		t.Errorf("Park of another one: %d, %v", n, errno)
	}
	if got, errno := fork.Try(api.Case{Chan: 0, Send: true, Value: 7}, pipes); got.Mate != (pew.Waiter{G: 2, Case: 0}) || errno != api.OK {
		t.Errorf("Try: %+v, %v", got, errno)
	}
	if n := fork.Leave(2, pipes); n != 3 {
		t.Errorf("Leave: %d", n)
	}
	if r := fork.Ready(both, pipes); len(r) != 0 {
		t.Errorf("Ready behind Leave: %v", r)
	}
}

// TestOnePipeByTwoNames: what stands in the list twice is one channel.
func TestOnePipeByTwoNames(t *testing.T) {
	p := filled(t, 0, 0)
	pipes := []*pipe.Pipe{p, p}
	if n, errno := fork.Park(1, []api.Case{{Chan: 0}, {Chan: 1}, {Send: true, Chan: 1, Value: 4}}, pipes); n != 3 || errno != api.OK {
		t.Errorf("Park: %d, %v", n, errno)
	}
	if n := fork.Leave(1, pipes); n != 3 || len(p.Waiting(true)) != 0 || len(p.Waiting(false)) != 0 {
		t.Errorf("Leave: %d", n)
	}
}

func TestLeaveTakesOneGoroutineAlone(t *testing.T) {
	pipes := []*pipe.Pipe{filled(t, 0, 0), nil, filled(t, 1, 0), filled(t, 1, 1)}
	l := []api.Case{{Chan: 0}, {Chan: 1}, {Chan: 2}, {Send: true, Chan: 3, Value: 6}}
	for _, g := range []int{1, 2, 1, 3} {
		if n, errno := fork.Park(g, l, pipes); n != 3 || errno != api.OK {
			t.Fatalf("Park(%d): %d, %v", g, n, errno)
		}
	}
	for _, g := range []int{math.MinInt, -1, 0, 4, math.MaxInt} {
		if n := fork.Leave(g, pipes); n != 0 {
			t.Errorf("Leave(%d): %d", g, n)
		}
	}
	if n := fork.Leave(1, pipes); n != 6 {
		t.Errorf("Leave(1): %d", n)
	}
	if want := []pew.Waiter{{G: 2}, {G: 3}}; !slices.Equal(pipes[0].Waiting(false), want) {
		t.Errorf("who waits: %v", pipes[0].Waiting(false))
	}
	if want := []pew.Waiter{{G: 2, Case: 3, Value: 6}, {G: 3, Case: 3, Value: 6}}; !slices.Equal(pipes[3].Waiting(true), want) {
		t.Errorf("who waits: %v", pipes[3].Waiting(true))
	}
	if n := fork.Leave(1, nil); n != 0 {
		t.Errorf("Leave without pipes: %d", n)
	}
}

// TestParkWithoutRoom: where a pew has no room for all cases, g waits nowhere anew, but where it waited it stays.
func TestParkWithoutRoom(t *testing.T) {
	full := filled(t, 0, 0)
	for i := range most - 1 {
		waits(t, full, false, pew.Waiter{G: i % 5, Case: -1})
	}
	pipes := []*pipe.Pipe{filled(t, 0, 0), full, full}
	before := pictures(pipes)
	for _, l := range [][]api.Case{
		{{Chan: 0}, {Chan: 1}, {Chan: 1}},
		{{Chan: 0}, {Chan: 1}, {Chan: 0}, {Chan: 2}},
		{{Chan: 1}, {Chan: 2}},
	} {
		if n, errno := fork.Park(1, l, pipes); n != 0 || errno != api.ErrFull {
			t.Errorf("Park(%+v): %d, %v, not ErrFull", l, n, errno)
		}
		same(t, "behind ErrFull", pipes, before)
	}
	if n, errno := fork.Park(7, []api.Case{{Chan: 0}, {Chan: 1}, {Chan: 0}}, pipes); n != 3 || errno != api.OK {
		t.Errorf("Park with just enough room: %d, %v", n, errno)
	}
	if n := fork.Leave(7, pipes); n != 3 {
		t.Errorf("Leave: %d", n)
	}
	same(t, "behind Leave", pipes, before)
}

func TestArgumentsStay(t *testing.T) {
	pipes := all(t)
	l := []api.Case{{Chan: 1}, {Send: true, Chan: 1, Value: 5}, {Chan: 99}, {Chan: 1, Value: 6}}
	kept, keptPipes := slices.Clone(l), slices.Clone(pipes)
	fork.Ready(l, pipes)
	fork.Try(l[1], pipes)
	if n, errno := fork.Park(1, l, pipes); n != 3 || errno != api.OK {
		t.Fatalf("Park: %d, %v", n, errno)
	}
	l[0], l[1] = api.Case{Chan: 2, Value: 50}, api.Case{Value: 51}
	if w := pipes[1].Waiting(true); !slices.Equal(w, []pew.Waiter{{G: 1, Case: 1, Value: 5}}) {
		t.Errorf("who waits changed with the cases: %v", w)
	}
	fork.Leave(1, pipes)
	if !slices.Equal(l[2:], kept[2:]) || !slices.Equal(pipes, keptPipes) {
		t.Errorf("arguments changed: %+v", l)
	}
}
