package sheet

import (
	"staithe/api"
	"staithe/deed"
	"staithe/reel"
)

// reader takes a script's parts off the front of bytes. Once it has failed all that it reads is 0 or empty, so that
// only the end of the reading has to ask.
type reader struct {
	rest   string
	failed bool
}

// upTo reads as many numbers as there are limits, none above its own: bytes may tell any length, and the bound stands
// ahead of the memory.
func (r *reader) upTo(limits ...int) []int {
	l := make([]int, len(limits))
	for i, most := range limits {
		n, rest, errno := reel.Take(r.rest)
		if r.failed || errno != api.OK || n > most {
			r.failed = true
			break
		}
		l[i], r.rest = n, rest
	}
	return l
}

func (r *reader) program(programs int) []api.Op {
	l := make([]api.Op, r.upTo(api.MaxOps)[0])
	for i := range l {
		o, rest, errno := deed.Decode(r.rest, programs)
		if errno != api.OK {
			r.failed = true
			return nil
		}
		l[i], r.rest = o, rest
	}
	return l
}

func (r *reader) list(most int) []int {
	l, rest, errno := reel.TakeList(r.rest, most)
	if r.failed || errno != api.OK {
		r.failed = true
		return nil
	}
	r.rest = rest
	return l
}
