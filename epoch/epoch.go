// Package epoch is layer 1: who, and at which of its clocks, as one number (shared/doc/01-epoch.md).
package epoch

import "staithe/api"

// Epoch is who, and at which clock: the clock in the low half, the tid's next number in the high one.
type Epoch uint64

// None is ahead of all; Tail is what nobody else ever sees.
const (
	None Epoch = 0
	Tail Epoch = 1<<64 - 1
)

const (
	tidShift  = 32
	clockMask = 1<<tidShift - 1
)

// Pack is a tid's clock.
func Pack(tid, clock int) (Epoch, api.Errno) {
	if tid < 0 || tid >= api.MaxTid {
		return None, api.ErrArg
	}
	if !isClock(clock) {
		return None, api.ErrArg
	}
	return Epoch(tid+1)<<tidShift | Epoch(clock), api.OK
}

// Tid is its tid.
func (e Epoch) Tid() int {
	tid, _ := e.parts()
	return tid
}

// Clock is its clock.
func (e Epoch) Clock() int {
	_, clock := e.parts()
	return clock
}

// Check tells whether it is an epoch.
func Check(e Epoch) api.Errno {
	if e == None || e == Tail || isOwned(e) {
		return api.OK
	}
	return api.ErrForm
}

// Next is the next clock of its tid.
func Next(e Epoch, most int) (Epoch, api.Errno) {
	if !isOwned(e) || !isClock(most) {
		return None, api.ErrArg
	}
	if !between(e.Clock, 1, most-1) {
		return None, api.ErrFull
	}
	return e + 1, api.OK
}

// Seen tells whether it is seen by one that knows its tid up to a clock.
func Seen(e Epoch, clock int) bool {
	return e == None || between(e.Clock, 1, clock)
}

// Less tells whether both are of one tid, and one is less.
func Less(a, b Epoch) bool {
	return a.Tid() == b.Tid() && between(a.Clock, 1, b.Clock()-1)
}

// parts answers -1 and 0 of all that is no tid's clock, so that a clock of 1 or more proves a tid.
func (e Epoch) parts() (int, int) {
	high, low := e>>tidShift, e&clockMask
	if high < 1 || high > api.MaxTid {
		return -1, 0
	}
	if low < 1 || low > api.MaxClock {
		return -1, 0
	}
	return int(high) - 1, int(low)
}

// isOwned tells whether it is a tid's clock, which None and Tail are not.
func isOwned(e Epoch) bool {
	return between(e.Tid, 0, api.MaxTid-1)
}

func isClock(n int) bool {
	return n >= 1 && n <= api.MaxClock
}

// between takes what is asked of an epoch as a method value: tids and clocks are bounded by one rule.
func between(ask func() int, least, most int) bool {
	n := ask()
	return n >= least && n <= most
}
