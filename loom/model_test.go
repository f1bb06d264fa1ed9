package loom_test

import (
	"slices"

	"staithe/api"
)

// world is what a run must be, in the document's words. It has no queues: who waits for a channel is looked for among all
// who wait, by when they began to.
type world struct {
	programs    [][]api.Op
	plan, draws []int
	people      []person
	canals      []canal
	names       map[int]int
	parks       int // how many there were
	panicked    bool
}

type person struct {
	program, place int
	state          string
	since          int
	wants          []want
}

// want is a send or a receive that a person waits for; the channel is the one that the name was then.
type want struct {
	place, canal int
	send         bool
	value        int
}

type canal struct {
	size   int
	values []int
	closed bool
}

func worldOf(s api.Script) *world {
	return &world{programs: s.Programs, plan: slices.Clone(s.Plan), draws: slices.Clone(s.Draws), people: []person{{state: "runnable"}}, names: map[int]int{}}
}

func (w *world) in(state string) []int {
	var l []int
	for g, p := range w.people {
		if p.state == state {
			l = append(l, g)
		}
	}
	return l
}

func (w *world) verdict() int {
	switch {
	case w.panicked:
		return 3
	case len(w.in("runnable")) > 0 && len(w.plan) > 0:
		return 0
	case len(w.in("runnable")) > 0:
		return 4
	case len(w.in("parked")) > 0:
		return 2
	}
	return 1
}

func (w *world) next() (int, api.Op, bool) {
	if w.verdict() != 0 {
		return 0, api.Op{}, false
	}
	if w.plan[0] == -1 {
		return -1, api.Op{}, true
	}
	able := w.in("runnable")
	g := able[w.plan[0]%len(able)]
	p := w.people[g]
	if p.place == len(w.programs[p.program]) {
		return g, api.Op{Kind: 9}, true
	}
	return g, w.programs[p.program][p.place], true
}

// waiter is who began first to wait for this, and by which of its wants.
func (w *world) waiter(canal int, send bool) (int, want, bool) {
	found, by := -1, want{}
	for g, p := range w.people {
		if p.state != "parked" || found >= 0 && w.people[found].since < p.since {
			continue
		}
		at := slices.IndexFunc(p.wants, func(x want) bool { return x.canal == canal && x.send == send })
		if at >= 0 {
			found, by = g, p.wants[at]
		}
	}
	return found, by, found >= 0
}

func (w *world) canal(name int) int {
	if n, ok := w.names[name]; ok {
		return n
	}
	return -1
}

func (w *world) ready(c api.Case) bool {
	n := w.canal(c.Chan)
	if n < 0 {
		return false
	}
	_, _, other := w.waiter(n, !c.Send)
	room := len(w.canals[n].values) > 0
	if c.Send {
		room = len(w.canals[n].values) < w.canals[n].size
	}
	return w.canals[n].closed || room || other
}

func (w *world) done(g int) {
	w.people[g].place++
}

func (w *world) waits(g int, wants []want) {
	w.parks++
	w.people[g].state, w.people[g].since, w.people[g].wants = "parked", w.parks, wants
}

func (w *world) wakes(g int) {
	w.people[g].state, w.people[g].wants = "runnable", nil
	w.people[g].place++
}

// step does what is next: its events.
func (w *world) step() []api.Event {
	g, o, ok := w.next()
	if !ok {
		return nil
	}
	w.plan = w.plan[1:]
	switch o.Kind {
	case 0:
		return []api.Event{{Kind: 13, G: -1, Chan: -1, Case: -1, Value: -1, Mate: -1}}
	case 1:
		w.done(g)
		w.people = append(w.people, person{program: o.A, state: "runnable"})
		return []api.Event{{Kind: 1, G: g, Chan: -1, Case: -1, Value: o.A, Mate: len(w.people) - 1}}
	case 2:
		w.done(g)
		w.names[o.A] = len(w.canals)
		w.canals = append(w.canals, canal{size: o.B})
		return []api.Event{{Kind: 2, G: g, Chan: len(w.canals) - 1, Case: -1, Value: o.B, Mate: -1}}
	case 3:
		return w.alone(g, api.Case{Send: true, Chan: o.A, Value: o.B})
	case 4:
		return w.alone(g, api.Case{Chan: o.A})
	case 5:
		return w.closes(g, w.canal(o.A))
	case 6:
		return w.selects(g, o)
	case 7, 8:
		w.done(g)
		return []api.Event{{Kind: o.Kind + 2, G: g, Chan: -1, Case: -1, Value: o.A, Mate: -1}}
	}
	w.people[g].state = "exited"
	return []api.Event{{Kind: 11, G: g, Chan: -1, Case: -1, Value: -1, Mate: -1}}
}

func (w *world) panics(g int) api.Event {
	w.panicked = true
	return api.Event{Kind: 12, G: g, Chan: -1, Case: -1, Value: -1, Mate: -1}
}

func (w *world) alone(g int, c api.Case) []api.Event {
	if w.ready(c) {
		return w.does(g, -1, c)
	}
	n := w.canal(c.Chan)
	w.waits(g, []want{{place: -1, canal: n, send: c.Send, value: c.Value}})
	return []api.Event{{Kind: 6, G: g, Chan: n, Case: -1, Value: c.Value, Mate: -1, Send: c.Send}}
}

func (w *world) selects(g int, o api.Op) []api.Event {
	var ready []int
	for i, c := range o.Cases {
		if w.ready(c) {
			ready = append(ready, i)
		}
	}
	switch {
	case len(ready) == 1:
		return w.does(g, ready[0], o.Cases[ready[0]])
	case len(ready) > 1:
		draw := 0
		if len(w.draws) > 0 {
			draw, w.draws = w.draws[0], w.draws[1:]
		}
		i := ready[draw%len(ready)]
		return w.does(g, i, o.Cases[i])
	case o.Default:
		w.done(g)
		return []api.Event{{Kind: 8, G: g, Chan: -1, Case: -1, Value: -1, Mate: -1}}
	}
	var wants []want
	for i, c := range o.Cases {
		if n := w.canal(c.Chan); n >= 0 {
			wants = append(wants, want{place: i, canal: n, send: c.Send, value: c.Value})
		}
	}
	w.waits(g, wants)
	return []api.Event{{Kind: 6, G: g, Chan: -1, Case: len(o.Cases), Value: 0, Mate: -1}}
}

// does does what is ready.
func (w *world) does(g, place int, c api.Case) []api.Event {
	n := w.canal(c.Chan)
	if c.Send {
		return w.sends(g, place, n, c.Value)
	}
	return w.receives(g, place, n)
}

func (w *world) sends(g, place, n, value int) []api.Event {
	if w.canals[n].closed {
		return []api.Event{w.panics(g)}
	}
	w.done(g)
	e := api.Event{Kind: 3, G: g, Chan: n, Case: place, Value: value, Mate: -1, Send: true}
	mate, by, ok := w.waiter(n, false)
	if !ok {
		w.canals[n].values = append(w.canals[n].values, value)
		return []api.Event{e}
	}
	w.wakes(mate)
	e.Mate = mate
	return []api.Event{e, {Kind: 7, G: mate, Chan: n, Case: by.place, Value: value, Mate: g, OK: true}}
}

func (w *world) receives(g, place, n int) []api.Event {
	w.done(g)
	mate, by, ok := w.waiter(n, true)
	x := &w.canals[n]
	if ok {
		x.values = append(x.values, by.value)
	}
	e := api.Event{Kind: 4, G: g, Chan: n, Case: place, Mate: -1}
	if len(x.values) == 0 {
		return []api.Event{e}
	}
	e.Value, e.OK, x.values = x.values[0], true, x.values[1:]
	if !ok {
		return []api.Event{e}
	}
	w.wakes(mate)
	e.Mate = mate
	return []api.Event{e, {Kind: 7, G: mate, Chan: n, Case: by.place, Value: by.value, Mate: g, Send: true, OK: true}}
}

func (w *world) closes(g, n int) []api.Event {
	if n < 0 || w.canals[n].closed {
		return []api.Event{w.panics(g)}
	}
	w.done(g)
	w.canals[n].closed = true
	l := []api.Event{{Kind: 5, G: g, Chan: n, Case: -1, Value: -1, Mate: -1}}
	for mate, by, ok := w.waiter(n, false); ok; mate, by, ok = w.waiter(n, false) {
		w.wakes(mate)
		l = append(l, api.Event{Kind: 7, G: mate, Chan: n, Case: by.place, Mate: g})
	}
	if mate, _, ok := w.waiter(n, true); ok {
		l = append(l, w.panics(mate))
	}
	return l
}
