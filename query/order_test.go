package query_test

import (
	"slices"

	"staithe/api"
)

// deal is a send or a receive: the places of the events that begin and complete it.
type deal struct{ begins, completes int }

// theory is what is ahead of what in a trace, by the memory model's edges and what follows from them, without clocks.
type theory struct {
	trace []api.Event
	ahead [][]bool // of each event, by places
}

func tells(e api.Event) bool {
	return slices.Contains([]int{api.EvSpawn, api.EvSend, api.EvRecv, api.EvClose, api.EvPark}, e.Kind)
}

func theoryOf(trace []api.Event) *theory {
	x := &theory{trace: trace, ahead: make([][]bool, len(trace))}
	edges := make([][]int, len(trace)) // of each event the places that an edge comes from
	for i, e := range trace {
		if e.Kind != api.EvCompact {
			edges[i] = append(edges[i], x.own(i, e)...)
		}
		if (e.Kind == api.EvRecv || e.Kind == api.EvWake) && !e.OK {
			edges[i] = append(edges[i], x.last(i, func(o api.Event) bool { return o.Kind == api.EvClose && o.Chan == e.Chan }))
		}
		if e.Kind == api.EvMake {
			x.channel(e.Chan, e.Value, edges)
		}
	}
	for i := range trace {
		x.ahead[i] = make([]bool, len(trace))
		for _, from := range edges[i] {
			x.ahead[i][from] = true
			for j := range from {
				x.ahead[i][j] = x.ahead[i][j] || x.ahead[from][j]
			}
		}
	}
	return x
}

// last is the place of the last such event ahead of one; -1, if there is none.
func (x *theory) last(i int, such func(o api.Event) bool) int {
	for i--; i >= 0 && !such(x.trace[i]); i-- {
	}
	return i
}

// own is the edge from the same goroutine's event ahead, or, to its first one, from its Spawn.
func (x *theory) own(i int, e api.Event) []int {
	at := x.last(i, func(o api.Event) bool { return o.G == e.G })
	if at < 0 {
		at = x.last(i, func(o api.Event) bool { return o.Kind == api.EvSpawn && o.Mate == e.G })
	}
	if at < 0 {
		return nil
	}
	return []int{at}
}

// deals are a channel's sends and receives, in their orders.
func (x *theory) deals(channel int) (sends, receives []deal) {
	for i, e := range x.trace {
		if e.Chan != channel || e.Kind != api.EvSend && (e.Kind != api.EvRecv || !e.OK) {
			continue
		}
		own, other := &sends, &receives
		if e.Kind == api.EvRecv {
			own, other = &receives, &sends
		}
		*own = append(*own, deal{i, i})
		if e.Mate >= 0 {
			park := x.last(i, func(o api.Event) bool { return o.Kind == api.EvPark && o.G == e.Mate })
			*other = append(*other, deal{park, i + 1})
		}
	}
	return sends, receives
}

// channel puts a channel's edges: from sends to their receives, and from receives to the sends that need their room.
func (x *theory) channel(channel, size int, edges [][]int) {
	sends, receives := x.deals(channel)
	join := func(from, to deal) {
		if from.begins != to.completes {
			edges[to.completes] = append(edges[to.completes], from.begins)
		}
	}
	for k, r := range receives {
		join(sends[k], r)
		if k+size < len(sends) {
			join(r, sends[k+size])
		}
	}
}

// number is one more than how many of its goroutine's events ahead of it tell.
func (x *theory) number(i int) int {
	n := 1
	for _, o := range x.trace[:i] {
		if o.G == x.trace[i].G && tells(o) {
			n++
		}
	}
	return n
}

// knows is the greatest number of a goroutine's events ahead of an event; of its own goroutine its own number.
func (x *theory) knows(i, g int) int {
	if x.trace[i].G == g {
		return x.number(i)
	}
	at := x.last(i, func(o api.Event) bool { return o.G == g })
	for at >= 0 && !x.ahead[i][at] {
		at = x.last(at, func(o api.Event) bool { return o.G == g })
	}
	if at < 0 {
		return 0
	}
	return x.number(at)
}
