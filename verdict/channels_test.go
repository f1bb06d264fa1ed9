package verdict_test

import (
	"math/rand"
	"reflect"
	"slices"
	"sync"
	"testing"
	"testing/synctest"

	"staithe/api"
	"staithe/loom"
)

// doing is what one of Go's own goroutines is to do: one of the cases of a select, or to close a channel.
type doing struct {
	cases  []reflect.SelectCase
	closes chan int
}

// done is what came of it. A panic has no case.
type done struct {
	g, at, value int
	ok, panicked bool
}

// world does a script's steps on Go's own channels.
type world struct {
	quit    chan int // ready at the end alone: it frees all that wait for ever
	names   [api.Chans]chan int
	orders  []chan doing
	mutex   sync.Mutex
	results []done
}

func newWorld() *world {
	w := &world{quit: make(chan int)}
	w.spawn()
	return w
}

func (w *world) spawn() {
	g, orders := len(w.orders), make(chan doing)
	w.orders = append(w.orders, orders)
	go func() {
		for x := range orders {
			result := try(x)
			result.g = g
			w.mutex.Lock()
			w.results = append(w.results, result)
			w.mutex.Unlock()
		}
	}()
}

// try does it, and waits as long as Go has it wait.
func try(x doing) (result done) {
	defer func() {
		if recover() != nil {
			result = done{at: -1, panicked: true}
		}
	}()
	if x.cases == nil {
		close(x.closes)
		return done{}
	}
	at, value, ok := reflect.Select(x.cases)
	if x.cases[at].Dir == reflect.SelectRecv && ok {
		return done{at: at, value: int(value.Int()), ok: true}
	}
	return done{at: at, ok: x.cases[at].Dir == reflect.SelectSend}
}

// do has a goroutine do something: what came of it, of that one and of others, when all wait.
func (w *world) do(g int, x doing) []done {
	w.orders[g] <- x
	synctest.Wait()
	l := w.results
	w.results = nil
	return l
}

func (w *world) end() {
	close(w.quit)
	for _, orders := range w.orders {
		close(orders)
	}
	synctest.Wait()
}

func (w *world) sends(name, v int) reflect.SelectCase {
	return reflect.SelectCase{Dir: reflect.SelectSend, Chan: reflect.ValueOf(w.names[name]), Send: reflect.ValueOf(v)}
}

func (w *world) receives(name int) reflect.SelectCase {
	return reflect.SelectCase{Dir: reflect.SelectRecv, Chan: reflect.ValueOf(w.names[name])}
}

func (w *world) cases(o api.Op) []reflect.SelectCase {
	switch o.Kind {
	case api.OpSend:
		return []reflect.SelectCase{w.sends(o.A, o.B)}
	case api.OpRecv:
		return []reflect.SelectCase{w.receives(o.A)}
	}
	var l []reflect.SelectCase
	for _, c := range o.Cases {
		if c.Send {
			l = append(l, w.sends(c.Chan, c.Value))
		} else {
			l = append(l, w.receives(c.Chan))
		}
	}
	return l
}

// waiting is what goes on with each that waits: whether it is a select.
type waiting map[int]bool

// same has what came of a step on Go's channels be what its events say.
func same(t *testing.T, events []api.Event, results []done, waits waiting, o api.Op) {
	t.Helper()
	first := events[0]
	mine := slices.IndexFunc(results, func(x done) bool { return x.g == first.G })
	if (mine < 0) != (first.Kind == api.EvPark) {
		t.Fatalf("%v: %v", events, results)
	}
	if mine >= 0 {
		x := results[mine]
		results = slices.Delete(results, mine, mine+1)
		switch first.Kind {
		case api.EvPanic:
			if !x.panicked {
				t.Fatalf("%v: %v", events, x)
			}
		case api.EvRecv:
			if x.panicked || x.value != first.Value || x.ok != first.OK {
				t.Fatalf("%v: %v", events, x)
			}
		default:
			if x.panicked {
				t.Fatalf("%v: %v", events, x)
			}
		}
	}
	for _, e := range events[1:] {
		i := slices.IndexFunc(results, func(x done) bool { return x.g == e.G })
		if i < 0 {
			t.Fatalf("%v: %v", events, results)
		}
		x := results[i]
		at := -1
		if waits[e.G] {
			at = x.at
		}
		switch {
		case e.Kind == api.EvPanic:
			if !x.panicked {
				t.Fatalf("%v: %v", events, x)
			}
			return // others that wait to send panic, too; the run is over
		case x.panicked, x.ok != e.OK, !e.Send && x.value != e.Value, at != e.Case:
			t.Fatalf("%v: %v", events, x)
		}
		results = slices.Delete(results, i, i+1)
	}
	if len(results) > 0 {
		t.Fatalf("%v: %v, too: %v", events, results, o)
	}
}

// lead does a whole run beside Go's own channels, and tells how often each kind of event was.
func lead(t *testing.T, s api.Script) (kinds [14]int) {
	t.Helper()
	w, waits := newWorld(), waiting{}
	defer w.end()
	l, errno := loom.New(s)
	if errno != api.OK {
		t.Fatal(errno)
	}
	for {
		g, o, ok := l.Next()
		events := l.Step()
		if !ok {
			return kinds
		}
		for _, e := range events {
			kinds[e.Kind]++
		}
		ready := []reflect.SelectCase{{Dir: reflect.SelectDefault}}
		never := []reflect.SelectCase{{Dir: reflect.SelectRecv, Chan: reflect.ValueOf(w.quit)}}
		switch first := events[0]; {
		case o.Kind == api.OpSpawn:
			w.spawn()
		case o.Kind == api.OpMake:
			w.names[o.A] = make(chan int, o.B)
		case o.Kind == api.OpClose:
			same(t, events, w.do(g, doing{closes: w.names[o.A]}), waits, o)
		case o.Kind == api.OpSend, o.Kind == api.OpRecv:
			same(t, events, w.do(g, doing{cases: append(w.cases(o), never...)}), waits, o)
		case o.Kind == api.OpSelect && first.Kind == api.EvPark:
			same(t, events, w.do(g, doing{cases: append(w.cases(o), never...)}), waits, o)
		case o.Kind == api.OpSelect && first.Kind == api.EvDefault:
			results := w.do(g, doing{cases: append(w.cases(o), ready...)})
			if len(results) != 1 || results[0].at != len(o.Cases) {
				t.Fatalf("%v: %v", events, results)
			}
		case o.Kind == api.OpSelect && first.Kind != api.EvPanic:
			at := first.Case // Go draws for itself: so that this case is ready is asked of it alone
			results := w.do(g, doing{cases: append(w.cases(o)[at:at+1], ready...)})
			if i := slices.IndexFunc(results, func(x done) bool { return x.g == g }); i < 0 || results[i].at != 0 {
				t.Fatalf("%v: %v", events, results)
			}
			same(t, events, results, waits, o)
		}
		if events[0].Kind == api.EvPark {
			waits[g] = o.Kind == api.OpSelect
		}
	}
}

// unlike has no select that has one channel twice in one direction: of these Go draws one when it is woken.
func unlike(s api.Script) api.Script {
	for _, p := range s.Programs {
		for i, o := range p {
			var l []api.Case
			for _, c := range o.Cases {
				if !slices.ContainsFunc(l, func(x api.Case) bool { return x.Send == c.Send && x.Chan == c.Chan }) {
					l = append(l, c)
				}
			}
			p[i].Cases = l
		}
	}
	return s
}

// TestGosChannels is P2: each step does what it does with Go's own goroutines, channels and selects.
func TestGosChannels(t *testing.T) {
	synctest.Test(t, func(t *testing.T) {
		r := rand.New(rand.NewSource(286))
		var kinds [14]int
		for range 1500 {
			for i, n := range lead(t, unlike(drawn(r, 120))) {
				kinds[i] += n
			}
		}
		if slices.Min(kinds[1:]) < 50 {
			t.Errorf("%v", kinds)
		}
	})
}
