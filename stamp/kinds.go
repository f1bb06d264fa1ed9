package stamp

import (
	"staithe/api"
	"staithe/clock"
	"staithe/slots"
)

// tells tells whether behind an event of a kind its goroutine's own number is one more.
func tells(kind int) bool {
	switch kind {
	case api.EvSpawn, api.EvSend, api.EvRecv, api.EvClose, api.EvPark:
		return true
	}
	return false
}

// doing is what an event of a kind does: it answers the event's stamp. All that Note refuses was refused ahead of it. An
// error of watch or slots then says only that there is nothing to fetch, or to keep: watch has one of who was retired ahead
// of its exit, slots of services that the rules let by and no run has (of who waits to send, though the buffer is empty; of
// who waits to receive, though it is full).
func doing(kind int) func(*Stamper, api.Event) Stamp {
	switch kind {
	case api.EvSpawn:
		return (*Stamper).spawn
	case api.EvMake:
		return (*Stamper).build
	case api.EvSend:
		return (*Stamper).send
	case api.EvRecv:
		return (*Stamper).receive
	case api.EvClose:
		return (*Stamper).shut
	case api.EvPark:
		return (*Stamper).park
	case api.EvWake:
		return (*Stamper).wake
	}
	return (*Stamper).stay
}

func (s *Stamper) spawn(e api.Event) Stamp {
	stamp := s.learn(e.G, nil)
	s.watch.Spawn(e.G, e.Mate)
	s.tell(e.G)
	return stamp
}

func (s *Stamper) build(e api.Event) Stamp {
	made, _ := slots.New(e.Value) // the rules have looked at the capacity
	s.channels = append(s.channels, channel{size: e.Value, slots: made})
	return s.learn(e.G, nil)
}

func (s *Stamper) send(e api.Event) Stamp {
	c, mate := s.channels[e.Chan], s.waiting[e.Mate]
	fetched, _ := c.slots.Peek(true)
	if c.size == 0 {
		fetched = mate
	}
	stamp := s.learn(e.G, fetched)
	c.slots.Send(s.tell(e.G))
	if e.Mate != -1 {
		s.due, _ = c.slots.Recv(mate)
	}
	return stamp
}

func (s *Stamper) receive(e api.Event) Stamp {
	if !e.OK {
		return s.hear(e)
	}
	c, mate := s.channels[e.Chan], s.waiting[e.Mate]
	served := e.Mate != -1
	if served && c.size == 0 {
		c.slots.Send(mate)
	}
	fetched, _ := c.slots.Peek(false)
	stamp := s.learn(e.G, fetched)
	told := s.tell(e.G)
	c.slots.Recv(told)
	if served && c.size == 0 {
		s.due = told
	} else if served {
		s.due, _ = c.slots.Send(mate)
	}
	return stamp
}

// hear is the receive from a channel that is closed.
func (s *Stamper) hear(e api.Event) Stamp {
	closing, _ := s.channels[e.Chan].slots.Closed()
	stamp := s.learn(e.G, closing)
	s.tell(e.G)
	return stamp
}

func (s *Stamper) shut(e api.Event) Stamp {
	stamp := s.learn(e.G, nil)
	s.channels[e.Chan].slots.Close(s.tell(e.G))
	return stamp
}

func (s *Stamper) park(e api.Event) Stamp {
	stamp := s.learn(e.G, nil)
	s.waiting[e.G] = s.tell(e.G)
	return stamp
}

func (s *Stamper) wake(e api.Event) Stamp {
	fetched := s.due
	if !e.OK {
		fetched, _ = s.channels[e.Chan].slots.Closed()
	}
	s.due = nil
	delete(s.waiting, e.G)
	return s.learn(e.G, fetched)
}

// stay is of the kinds that neither fetch nor tell. Of nobody, who compacts, it is None and no list.
func (s *Stamper) stay(e api.Event) Stamp {
	return s.learn(e.G, nil)
}

// learn has a goroutine fetch a clock (a nil one has nothing): what it knows then is its event's stamp.
func (s *Stamper) learn(g int, fetched *clock.Clock) Stamp {
	s.watch.Know(g, fetched)
	known, _ := s.watch.Clock(g)
	return Stamp{Epoch: s.watch.Epoch(g), Clock: known.List()}
}

func (s *Stamper) tell(g int) *clock.Clock {
	told, _ := s.watch.Tell(g)
	return told
}
