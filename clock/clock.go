// Package clock is layer 2: vector clocks, whose copies share their numbers until one changes (shared/doc/02-clock.md).
package clock

import (
	"staithe/api"
	"staithe/epoch"
)

// Clock is a vector clock. Its numbers never end with a nought, so that equal clocks have equal lists.
type Clock struct {
	numbers []int
	shared  bool // others may read the same memory: it is not to be written, and has no spare room
}

// New is one of noughts.
func New() *Clock {
	return &Clock{}
}

// Of is one of numbers.
func Of(l []int) (*Clock, api.Errno) {
	if len(l) > api.MaxTid {
		return nil, api.ErrLong
	}
	for _, n := range l {
		if !isNumber(n) {
			return nil, api.ErrArg
		}
	}
	return &Clock{numbers: duplicate(trim(l))}, api.OK
}

// Get is a tid's number.
func (c *Clock) Get(tid int) int {
	if c == nil || tid < 0 || tid >= len(c.numbers) {
		return 0
	}
	return c.numbers[tid]
}

// Set sets it.
func (c *Clock) Set(tid, n int) api.Errno {
	if !isTid(tid) || !isNumber(n) {
		return api.ErrArg
	}
	if c == nil {
		return api.ErrState
	}
	c.put(tid, n)
	return api.OK
}

// Tick has it be one more.
func (c *Clock) Tick(tid, most int) api.Errno {
	if !isTid(tid) || most < 1 || !isNumber(most) {
		return api.ErrArg
	}
	if c == nil {
		return api.ErrState
	}
	n := c.Get(tid)
	if n >= most {
		return api.ErrFull
	}
	c.put(tid, n+1)
	return api.OK
}

// Join takes the greater numbers: whether one has changed.
func (c *Clock) Join(o *Clock) bool {
	if c == nil || o == nil {
		return false
	}
	changed := false
	for tid, n := range o.numbers {
		if n > c.Get(tid) {
			c.own(len(o.numbers))
			c.numbers[tid] = n
			changed = true
		}
	}
	return changed
}

// Within tells whether it is within another one.
func (c *Clock) Within(o *Clock) bool {
	if c == nil {
		return true
	}
	for tid, n := range c.numbers {
		if n > o.Get(tid) {
			return false
		}
	}
	return true
}

// Copy is one of the same numbers.
func (c *Clock) Copy() *Clock {
	if c == nil {
		return New()
	}
	// The third index takes the spare room away: whichever of both grows then moves, and leaves the other alone.
	n := len(c.numbers)
	c.numbers = c.numbers[:n:n]
	c.shared = true
	return &Clock{numbers: c.numbers, shared: true}
}

// List is its list.
func (c *Clock) List() []int {
	if c == nil {
		return nil
	}
	return duplicate(c.numbers)
}

// Epoch is a tid's epoch.
func (c *Clock) Epoch(tid int) epoch.Epoch {
	e, _ := epoch.Pack(tid, c.Get(tid)) // beside an error it is None, as is asked for
	return e
}

// put leaves a number alone that is so already: shared memory is not copied for nothing, noughts take no room.
func (c *Clock) put(tid, n int) {
	if c.Get(tid) == n {
		return
	}
	c.own(tid + 1)
	c.numbers[tid] = n
	c.numbers = trim(c.numbers)
}

// own has the clock have n numbers at least, in memory that no other clock reads.
func (c *Clock) own(n int) {
	if more := n - len(c.numbers); more > 0 {
		c.numbers = append(c.numbers, make([]int, more)...)
	} else if c.shared {
		c.numbers = duplicate(c.numbers)
	}
	c.shared = false
}

// trim cuts noughts off the end; what is behind stays as room to grow into.
func trim(l []int) []int {
	n := len(l)
	for n > 0 && l[n-1] == 0 {
		n--
	}
	return l[:n]
}

func duplicate(l []int) []int {
	fresh := make([]int, len(l))
	copy(fresh, l)
	return fresh
}

func isTid(n int) bool {
	return n >= 0 && n < api.MaxTid
}

func isNumber(n int) bool {
	return n >= 0 && n <= api.MaxClock
}
