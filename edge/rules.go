package edge

import (
	"staithe/api"
	"staithe/gauge"
)

// The rules.
const (
	order = 1 + iota
	spawn
	send
	closing
	meeting
	room
)

// programs are the edges of the rules 1 and 2: to each event from the one ahead of it of the same goroutine, or from its
// Spawn.
func programs(l []api.Event) []Edge {
	var edges []Edge
	ahead := make([]Edge, gauge.Goroutines(l)) // of each goroutine the edge to its next event, without its To; at first none
	for i, e := range l {
		if e.Kind == api.EvCompact {
			continue
		}
		if x := ahead[e.G]; x.Rule != 0 {
			x.To = i
			edges = append(edges, x)
		}
		ahead[e.G] = Edge{From: i, Rule: order}
		if e.Kind == api.EvSpawn {
			ahead[e.Mate] = Edge{From: i, Rule: spawn}
		}
	}
	return edges
}

// deal is a send or a receive: the places of what begins and of what completes it.
type deal struct{ begins, completes int }

// channel has its sends, and receives, in the order in which they came in, and out.
type channel struct {
	size            int
	closed          int // where it was
	sends, receives []deal
}

// channels are the edges of the rules 3 to 6.
func channels(l []api.Event) []Edge {
	var edges []Edge
	made := make([]channel, gauge.Channels(l))
	for i, e := range l {
		if e.Chan == -1 {
			continue
		}
		c := &made[e.Chan]
		switch {
		case e.Kind == api.EvMake:
			c.size = e.Value
		case e.Kind == api.EvClose:
			c.closed = i
		case e.Kind == api.EvSend:
			c.sends = append(c.sends, dealAt(l, i))
			c.receives = append(c.receives, service(l, i)...)
		case e.Kind == api.EvRecv && e.OK:
			c.receives = append(c.receives, dealAt(l, i))
			c.sends = append(c.sends, service(l, i)...)
		case e.Kind == api.EvRecv, e.Kind == api.EvWake && !e.OK:
			edges = append(edges, Edge{From: c.closed, To: i, Rule: closing})
		}
	}
	for _, c := range made {
		edges = append(edges, c.edges()...)
	}
	return edges
}

func dealAt(l []api.Event, i int) deal {
	return deal{begins: begins(l, i), completes: i}
}

// service is the deal of whom a Send or Recv served: none, if it served nobody, or if the Wake is missing.
func service(l []api.Event, i int) []deal {
	if l[i].Mate == -1 || i+1 == len(l) {
		return nil
	}
	return []deal{dealAt(l, i+1)}
}

// edges are those of the rules 3, 5 and 6: from sends to their receives, and from receives to the sends that need their
// room. Without a buffer that is the send of the same number, by a rule of its own. All of them go forward, as a trace's
// rules have no value come out that did not come in, and none come in without room.
func (c channel) edges() []Edge {
	back := room
	if c.size == 0 {
		back = meeting
	}
	var l []Edge
	for k, r := range c.receives {
		if k < len(c.sends) {
			l = append(l, Edge{From: c.sends[k].begins, To: r.completes, Rule: send})
		}
		if k+c.size < len(c.sends) {
			l = append(l, Edge{From: r.begins, To: c.sends[k+c.size].completes, Rule: back})
		}
	}
	return l
}
