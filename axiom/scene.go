package axiom

import (
	"slices"

	"staithe/api"
	"staithe/gauge"
)

// scene is how goroutines and channels stand behind a trace's events.
type scene struct {
	goroutines []goroutine
	channels   []channel
}

// goroutine has where that stands which it knows: the place of its last event, or of its Spawn, as long as it has none.
type goroutine struct {
	latest int
	exited bool
}

// channel has its sends and receives, and its Close, by the places of the events that begin them.
type channel struct {
	size                    int
	sends, receives, closes []int
}

func sceneOf(l []api.Event) scene {
	s := scene{goroutines: make([]goroutine, gauge.Goroutines(l)), channels: make([]channel, gauge.Channels(l))}
	for i, e := range l {
		if e.Chan != -1 {
			s.channels[e.Chan].note(e, s.begins(e, i))
		}
		if e.Kind == api.EvSpawn {
			s.goroutines[e.Mate].latest = i
		}
		if e.Kind != api.EvCompact {
			s.goroutines[e.G] = goroutine{latest: i, exited: e.Kind == api.EvExit}
		}
	}
	return s
}

// begins is where that begins what the event at i completes. Who waits does nothing else, so ahead of a Wake its goroutine's
// last event is the Park.
func (s scene) begins(e api.Event, i int) int {
	if e.Kind == api.EvWake {
		return s.goroutines[e.G].latest
	}
	return i
}

// note has a channel's event be known to it. A Wake stands next to the event of who served it, so sends and receives are
// completed in the order in which they came in and out.
func (c *channel) note(e api.Event, begins int) {
	switch {
	case e.Kind == api.EvMake:
		c.size = e.Value
	case e.Kind == api.EvClose:
		c.closes = append(c.closes, begins)
	case e.Kind == api.EvSend, e.Kind == api.EvWake && e.Send:
		c.sends = append(c.sends, begins)
	case e.Kind == api.EvRecv && e.OK, e.Kind == api.EvWake && e.OK:
		c.receives = append(c.receives, begins)
	}
}

// held are the places of the events of which somebody may learn from the channel yet: a send's receive is to come, or the
// send that takes the room of a receive, or whoever finds it closed.
func (c channel) held() []int {
	l := slices.Concat(c.closes, from(c.sends, len(c.receives)))
	if c.size > 0 {
		l = append(l, from(c.receives, len(c.sends)-c.size)...)
	}
	return l
}

// from is a list from its n'th element on.
func from(l []int, n int) []int {
	return l[min(max(n, 0), len(l)):]
}

// settled is the cut of a goroutine, and whether it exited and is settled.
func (t theory) settled(g int) (int, bool) {
	s := sceneOf(t.events)
	if !s.goroutines[g].exited {
		return 0, false
	}
	var living []int // what they know of g
	for _, x := range s.goroutines {
		if !x.exited {
			living = append(living, t.knows(x.latest, g))
		}
	}
	if len(living) == 0 || slices.Min(living) != slices.Max(living) {
		return 0, false
	}
	cut := living[0]
	more := func(at int) bool { return t.knows(at, g) > cut }
	if slices.ContainsFunc(t.held(s), more) {
		return 0, false
	}
	return cut, true
}

// held are the places of all events whose clocks are: those that channels hold, and the Parks of those that wait.
func (t theory) held(s scene) []int {
	var l []int
	for _, c := range s.channels {
		l = append(l, c.held()...)
	}
	for _, x := range s.goroutines {
		if t.events[x.latest].Kind == api.EvPark {
			l = append(l, x.latest)
		}
	}
	return l
}
