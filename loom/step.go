package loom

import (
	"staithe/api"
	"staithe/crew"
	"staithe/entry"
	"staithe/fork"
	"staithe/pipe"
)

// do has a goroutine do its operation. A panic is told at one place, whatever was done when it came: it may be that of
// another goroutine, which waited.
func (l *Loom) do(g int, o api.Op) {
	who := g // panics, if one does
	e := entry.Bare(0, g)
	switch o.Kind {
	case api.OpSpawn:
		e.Kind, e.Value = api.EvSpawn, o.A
		e.Mate, _ = l.crew.Spawn(o.A) // a plan is too short for too many
		l.goesOn(e)
	case api.OpMake:
		e.Kind, e.Value = api.EvMake, o.B
		e.Chan = l.opens(o.A, o.B)
		l.goesOn(e)
	case api.OpRead:
		e.Kind, e.Value = api.EvRead, o.A
		l.goesOn(e)
	case api.OpWrite:
		e.Kind, e.Value = api.EvWrite, o.A
		l.goesOn(e)
	case api.OpExit:
		e.Kind = api.EvExit
		l.crew.Exit(g)
		l.tell(e)
	case api.OpSend:
		if !l.alone(g, api.Case{Send: true, Chan: o.A, Value: o.B}) {
			goto panics
		}
	case api.OpRecv:
		l.alone(g, api.Case{Chan: o.A}) // a receive never panics
	case api.OpClose:
		if who = l.closes(g, o.A); who != none {
			goto panics
		}
	case api.OpSelect:
		if !l.choose(g, o) {
			goto panics
		}
	}
	return
panics:
	l.panicked = true
	l.tell(entry.Bare(api.EvPanic, who))
}

// goesOn tells what a goroutine has done, and has it go on.
func (l *Loom) goesOn(e api.Event) {
	l.crew.Go(e.G)
	l.tell(e)
}

// waits tells for what a goroutine waits, and has it wait.
func (l *Loom) waits(e api.Event) {
	l.crew.Park(e.G)
	l.tell(e)
}

// wakes tells of one that was served, and has it go on; it waits nowhere any longer.
func (l *Loom) wakes(e api.Event) {
	fork.Leave(e.G, l.pipes)
	l.crew.Wake(e.G)
	l.tell(e)
}

// opens is the number of a new channel, which has a name from now on.
func (l *Loom) opens(name, size int) int {
	l.pipes[name], _ = pipe.New(size) // a right script has right capacities
	l.numbers[name] = l.made
	l.made++
	return l.numbers[name]
}

// alone does a send or receive that is no select's, or waits: false, if it panics.
func (l *Loom) alone(g int, c api.Case) bool {
	done, fine := l.try(g, none, c)
	if done || !fine {
		return fine
	}
	var got pipe.Got // has a waiter's form, which is a layer's that a loom does not call
	got.Mate.G, got.Mate.Case, got.Mate.Value = g, none, c.Value
	l.pipes[c.Chan].Wait(c.Send, got.Mate)
	e := entry.Bare(api.EvPark, g)
	e.Chan, e.Value, e.Send = l.numbers[c.Chan], c.Value, c.Send
	l.waits(e)
	return true
}

// choose does a case of a select, or none, or waits: false, if it panics.
func (l *Loom) choose(g int, o api.Op) bool {
	if ready := fork.Ready(o.Cases, l.pipes); len(ready) > 0 {
		n, _ := l.cursor.Draw(len(ready))
		_, fine := l.try(g, ready[n], o.Cases[ready[n]])
		return fine
	}
	if o.Default {
		l.goesOn(entry.Bare(api.EvDefault, g))
		return true
	}
	fork.Park(g, o.Cases, l.pipes)
	e := entry.Bare(api.EvPark, g)
	e.Case, e.Value = len(o.Cases), 0
	l.waits(e)
	return true
}

// try does a send or receive, if it need not wait, and has whom it serves be woken. Whether it is done, and whether it
// does not panic.
func (l *Loom) try(g, place int, c api.Case) (done, fine bool) {
	got, errno := fork.Try(c, l.pipes)
	if errno != api.OK || !got.Ready {
		return false, errno == api.OK
	}
	e := api.Event{Kind: api.EvRecv, G: g, Chan: l.numbers[c.Chan], Case: place, Value: got.Value, Mate: none, OK: got.OK}
	if c.Send {
		e.Kind, e.Value, e.Send = api.EvSend, c.Value, true
	}
	if got.Woke {
		e.Mate = got.Mate.G
	}
	l.goesOn(e)
	if got.Woke {
		l.wakes(service(e, got))
	}
	return true, true
}

// service is the Wake of whom a Send or Recv served: who waited to receive has what was sent, who waited to send its own.
func service(e api.Event, got pipe.Got) api.Event {
	w := got.Mate
	woken := api.Event{Kind: api.EvWake, G: w.G, Chan: e.Chan, Case: w.Case, Value: w.Value, Mate: e.G, Send: true, OK: true}
	if e.Send {
		woken.Value, woken.Send = e.Value, false
	}
	return woken
}

// closes closes a channel: who panics of it, none if nobody does. That is who closes what is no open channel, or who waited
// there to send.
func (l *Loom) closes(g, name int) int {
	receivers, senders, errno := l.pipes[name].Close()
	if errno != api.OK {
		return g
	}
	e := entry.Bare(api.EvClose, g)
	e.Chan = l.numbers[name]
	l.goesOn(e)
	for _, w := range receivers {
		if l.isParked(w.G) {
			l.wakes(api.Event{Kind: api.EvWake, G: w.G, Chan: e.Chan, Case: w.Case, Mate: g})
		}
	}
	for _, w := range senders {
		if l.isParked(w.G) {
			return w.G
		}
	}
	return none
}

// isParked tells whether a goroutine waits still: one that stands at a channel several times is woken but once, and one
// that was woken has nothing to send there any longer.
func (l *Loom) isParked(g int) bool {
	state, _ := l.crew.State(g)
	return state == crew.Parked
}
