package stamp_test

import (
	"slices"

	"staithe/api"
)

// act is a send or a receive: the places of the events that begin and complete it.
type act struct{ begins, completes int }

// model is a trace's order by the memory model's rules alone, without clocks: of each event all that are ahead of it, its
// number, and of each goroutine up to which number it is known to it.
type model struct {
	events      []api.Event
	ahead       [][]bool
	number      []int
	knows       [][]int
	sends, gets map[int][]act // by channels
	size        map[int]int
	count       int // of goroutines
}

func tells(e api.Event) bool { return e.Kind >= 1 && e.Kind <= 6 && e.Kind != 2 }

// owes tells whether the next event must be a Wake.
func owes(l []api.Event) bool {
	if len(l) == 0 {
		return false
	}
	e := l[len(l)-1]
	return (e.Kind == 3 || e.Kind == 4) && e.Mate != -1
}

func modelOf(l []api.Event) *model {
	m := &model{events: l, sends: map[int][]act{}, gets: map[int][]act{}, size: map[int]int{}, count: 1}
	edges := make([][]int, len(l)) // of each event those that an edge comes from
	for i, e := range l {
		switch e.Kind {
		case 1:
			m.count++
		case 2:
			m.size[e.Chan] = e.Value
		case 3, 4:
			m.meet(i, e)
		}
		edges[i] = append(m.same(i, e), m.closing(i, e)...)
	}
	for channel := range m.size {
		m.through(channel, edges)
	}
	for i := range l {
		m.close(i, edges[i])
	}
	return m
}

// meet counts what a Send or a Recv sends and receives, for itself and for whom it serves.
func (m *model) meet(i int, e api.Event) {
	own, others := m.sends, m.gets
	if e.Kind == 4 {
		own, others = m.gets, m.sends
	}
	if e.Kind == 4 && !e.OK {
		return
	}
	own[e.Chan] = append(own[e.Chan], act{i, i})
	if e.Mate != -1 && i+1 < len(m.events) {
		park := m.last(i, func(o api.Event) bool { return o.G == e.Mate && o.Kind == 6 })
		others[e.Chan] = append(others[e.Chan], act{park, i + 1})
	}
}

// last is the place of the last such event ahead of one; -1, if there is none.
func (m *model) last(i int, is func(o api.Event) bool) int {
	for i--; i >= 0 && !is(m.events[i]); i-- {
	}
	return i
}

// same are rules 1 and 2.
func (m *model) same(i int, e api.Event) []int {
	if e.Kind == 13 {
		return nil
	}
	at := m.last(i, func(o api.Event) bool { return o.G == e.G })
	if at < 0 {
		at = m.last(i, func(o api.Event) bool { return o.Kind == 1 && o.Mate == e.G })
	}
	if at < 0 {
		return nil
	}
	return []int{at}
}

// closing is rule 4.
func (m *model) closing(i int, e api.Event) []int {
	if e.Kind != 4 && e.Kind != 7 || e.OK {
		return nil
	}
	return []int{m.last(i, func(o api.Event) bool { return o.Kind == 5 && o.Chan == e.Chan })}
}

// through are rules 3, 5 and 6.
func (m *model) through(channel int, edges [][]int) {
	join := func(a, b act) {
		if a.begins != b.completes {
			edges[b.completes] = append(edges[b.completes], a.begins)
		}
	}
	sends, gets, size := m.sends[channel], m.gets[channel], m.size[channel]
	for k := range min(len(sends), len(gets)) {
		join(sends[k], gets[k])
	}
	for k := range min(len(gets), len(sends)-size) {
		join(gets[k], sends[k+size])
	}
}

// close reckons of an event what follows from the edges to it.
func (m *model) close(i int, from []int) {
	ahead, knows := make([]bool, len(m.events)), make([]int, m.count)
	for _, at := range from {
		ahead[at] = true
		for j := range at {
			ahead[j] = ahead[j] || m.ahead[at][j]
		}
	}
	e, number := m.events[i], 1
	for j, o := range m.events[:i] {
		if o.G == e.G && tells(o) {
			number++
		}
		if ahead[j] {
			knows[o.G] = max(knows[o.G], m.number[j])
		}
	}
	if e.Kind == 13 {
		number, knows = 0, nil
	} else {
		knows[e.G] = number
	}
	m.ahead, m.number, m.knows = append(m.ahead, ahead), append(m.number, number), append(m.knows, knows)
}

// held are the places of the events whose clocks are kept, in Held's order. The trace owes nothing.
func (m *model) held() []int {
	var l []int
	for channel := range len(m.size) {
		sends, gets, size := m.sends[channel], m.gets[channel], m.size[channel]
		for _, a := range sends[len(gets):] {
			l = append(l, a.begins)
		}
		for k, a := range gets {
			if size > 0 && k+size >= len(sends) {
				l = append(l, a.begins)
			}
		}
		if at := m.last(len(m.events), func(o api.Event) bool { return o.Kind == 5 && o.Chan == channel }); at >= 0 {
			l = append(l, at)
		}
	}
	for g := range m.count {
		at := m.last(len(m.events), func(o api.Event) bool { return o.G == g && o.Kind != 12 }) // who panics waits still
		if at >= 0 && m.events[at].Kind == 6 {
			l = append(l, at)
		}
	}
	return l
}

// strange tells whether a buffer was full when a Send served one, or empty when a Recv did: the rules of a trace let that
// by, but no run has it.
func (m *model) strange() bool {
	full := map[int]int{}
	for _, e := range m.events {
		switch {
		case e.Kind == 3 && e.Mate == -1:
			full[e.Chan]++
		case e.Kind == 4 && e.OK && e.Mate == -1:
			full[e.Chan]--
		case m.size[e.Chan] == 0:
		case e.Kind == 3 && full[e.Chan] == m.size[e.Chan], e.Kind == 4 && e.OK && full[e.Chan] == 0:
			return true
		}
	}
	return false
}

// trimmed is a list without noughts at its end.
func trimmed(l []int) []int {
	l = slices.Clone(l)
	for len(l) > 0 && l[len(l)-1] == 0 {
		l = l[:len(l)-1]
	}
	return l
}
