package entry

import "staithe/api"

// last is the greatest number of a goroutine, and of a channel.
const last = 511

// span is from the least to the greatest number that a field may be.
type span struct{ least, most int }

func (s span) has(n int) bool {
	return n >= s.least && n <= s.most
}

// spans are what an event's fields may be, each at its place.
func spans(e api.Event) [width]span {
	none, number := span{-1, -1}, span{0, last}
	r := [width]span{atG: number, atChan: none, atCase: none, atValue: none, atMate: none}
	switch e.Kind {
	case api.EvSpawn:
		r[atValue], r[atMate] = span{0, api.MaxPrograms - 1}, number
	case api.EvMake:
		r[atChan], r[atValue] = number, span{0, api.MaxCap}
	case api.EvSend, api.EvRecv, api.EvWake:
		r[atChan], r[atCase], r[atValue] = number, span{-1, api.MaxCases - 1}, values(e)
		r[atMate] = mates(e)
	case api.EvClose:
		r[atChan] = number
	case api.EvPark:
		r[atChan], r[atCase], r[atValue] = span{-1, last}, span{-1, api.MaxCases}, values(e)
		if isSelect(e) {
			r[atChan] = none
		}
	case api.EvRead, api.EvWrite:
		r[atValue] = span{0, api.Cells - 1}
	case api.EvCompact:
		r[atG] = none
	}
	return r
}

// values are those of a Send, a Recv, a Park and a Wake: nothing but 0 is there where nothing was sent or received.
func values(e api.Event) span {
	if e.Send || e.OK {
		return span{0, api.MaxValue}
	}
	return span{0, 0}
}

// mates are those of a Send, a Recv and a Wake: somebody has woken who wakes; who serves may have served nobody, and
// who receives from a closed channel has not.
func mates(e api.Event) span {
	switch {
	case e.Kind == api.EvWake:
		return span{0, last}
	case e.Send || e.OK:
		return span{-1, last}
	}
	return span{-1, -1}
}

// flagsFit tells whether Send and OK may be as they are.
func flagsFit(e api.Event) bool {
	switch e.Kind {
	case api.EvSend:
		return e.Send && !e.OK
	case api.EvRecv:
		return !e.Send
	case api.EvPark:
		return !e.OK && !(e.Send && isSelect(e))
	case api.EvWake:
		return e.OK || !e.Send
	}
	return !e.Send && !e.OK
}

// isSelect tells of a Park whether it is for a select's cases.
func isSelect(e api.Event) bool {
	return e.Case != -1
}
