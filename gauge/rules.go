package gauge

import (
	"staithe/api"
	"staithe/entry"
)

// serviceRule is the number of the one rule that a trace may break at its end.
const serviceRule = 4

// What a goroutine may be.
const (
	able = iota
	waiting
	exited
)

// reader reads a trace, event by event. Each rule keeps what it needs to know of the events ahead itself; what is kept
// where a rule is broken counts no longer.
type reader struct {
	events   []api.Event
	states   []int // of goroutines
	channels map[int]channel
	panicked bool
	last     api.Event // what the next event may be a service of
}

type channel struct {
	capacity int
	values   []int
	closed   bool
}

// right is rule 1.
func (r *reader) right(at int) bool {
	return at < longest && entry.Check(r.events[at]) == api.OK
}

// goroutines is rule 2.
func (r *reader) goroutines(at int) bool {
	e := r.events[at]
	if r.panicked {
		return false
	}
	if e.Kind == api.EvCompact {
		return true
	}
	if e.G >= len(r.states) || !mayDo(r.states[e.G], e.Kind) {
		return false
	}
	switch e.Kind {
	case api.EvSpawn:
		if e.Mate != len(r.states) {
			return false
		}
		r.states = append(r.states, able)
	case api.EvPark:
		r.states[e.G] = waiting
	case api.EvWake:
		r.states[e.G] = able
	case api.EvExit:
		r.states[e.G] = exited
	case api.EvPanic:
		r.panicked = true
	}
	return true
}

// mayDo tells whether one in this state may have an event of this kind.
func mayDo(state, kind int) bool {
	switch kind {
	case api.EvWake:
		return state == waiting
	case api.EvPanic:
		return state != exited
	}
	return state == able
}

// numbers is rule 3.
func (r *reader) numbers(at int) bool {
	e := r.events[at]
	if e.Kind == api.EvMake {
		if e.Chan != len(r.channels) {
			return false
		}
		r.channels[e.Chan] = channel{capacity: e.Value}
	}
	return e.Chan < len(r.channels)
}

// service is rule 4. All Wakes behind a Close are of that Close.
func (r *reader) service(at int) bool {
	e, server := r.events[at], r.last
	if r.owed() {
		r.last = e
		return serves(server, e)
	}
	if e.Kind != api.EvWake {
		r.last = e
		return true
	}
	return server.Kind == api.EvClose && e.Mate == server.G && e.Chan == server.Chan && !e.Send && !e.OK
}

// owed tells whether the next event must be a service of the last one.
func (r *reader) owed() bool {
	k := r.last.Kind
	return (k == api.EvSend || k == api.EvRecv) && r.last.Mate != -1
}

// serves tells whether an event is the Wake of whom a Send or Recv served.
func serves(server, e api.Event) bool {
	if e.Kind != api.EvWake || e.G != server.Mate || e.Mate != server.G || e.Chan != server.Chan || !e.OK {
		return false
	}
	if server.Kind == api.EvRecv {
		return e.Send
	}
	return !e.Send && e.Value == server.Value
}

// order is rule 5.
func (r *reader) order(at int) bool {
	e := r.events[at]
	sent, received, served := e.Kind == api.EvSend, e.Kind == api.EvRecv && e.OK, e.Mate != -1
	if !sent && !received {
		return true
	}
	c := r.channels[e.Chan]
	switch {
	case sent:
		c.values = append(c.values, e.Value)
	case served && at+1 < len(r.events):
		c.values = append(c.values, r.events[at+1].Value)
	}
	if received || served {
		if len(c.values) == 0 {
			return served // the value would be that of the service, which is missing: rule 4 tells that
		}
		if c.values[0] != e.Value {
			return false
		}
		c.values = c.values[1:]
	}
	r.channels[e.Chan] = c
	return len(c.values) <= c.capacity
}

// closing is rule 6.
func (r *reader) closing(at int) bool {
	e := r.events[at]
	c := r.channels[e.Chan]
	switch e.Kind {
	case api.EvClose:
		if c.closed {
			return false
		}
		c.closed = true
		r.channels[e.Chan] = c
	case api.EvSend:
		return !c.closed
	case api.EvRecv:
		if !e.OK {
			return c.closed && len(c.values) == 0
		}
		return e.Mate == -1 || !c.closed
	}
	return true
}
