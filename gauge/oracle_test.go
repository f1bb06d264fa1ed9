package gauge_test

import (
	"staithe/api"
	"staithe/entry"
)

// oracle is what Check must tell: each rule is asked of each event by looking back over all that is ahead of it, and
// nothing is kept.
func oracle(l []api.Event) (int, int) {
	for i := range l {
		for rule, keeps := range []func([]api.Event, int) bool{right, goroutines, channels, service, order, closing} {
			if !keeps(l, i) {
				return rule + 1, i
			}
		}
	}
	if n := len(l); n > 0 && serves(l[n-1]) {
		return 4, n
	}
	return 0, 0
}

func right(l []api.Event, i int) bool {
	return i < 2000 && entry.Check(l[i]) == api.OK
}

// some tells how many events there are, and the last one of them.
func some(l []api.Event, is func(e api.Event) bool) (int, api.Event) {
	n, last := 0, api.Event{}
	for _, e := range l {
		if is(e) {
			n++
			last = e
		}
	}
	return n, last
}

func of(kind int) func(e api.Event) bool {
	return func(e api.Event) bool { return e.Kind == kind }
}

func goroutines(l []api.Event, i int) bool {
	e, ahead := l[i], l[:i]
	if n, _ := some(ahead, of(12)); n > 0 {
		return false
	}
	if e.Kind == 13 {
		return true
	}
	spawned, _ := some(ahead, of(1))
	exits, _ := some(ahead, func(x api.Event) bool { return x.Kind == 11 && x.G == e.G })
	_, last := some(ahead, func(x api.Event) bool { return (x.Kind == 6 || x.Kind == 7) && x.G == e.G })
	waits := last.Kind == 6
	switch {
	case e.G > spawned || exits > 0:
		return false
	case e.Kind == 12:
		return true
	case e.Kind == 7:
		return waits
	case e.Kind == 1 && e.Mate != spawned+1:
		return false
	}
	return !waits
}

func channels(l []api.Event, i int) bool {
	made, _ := some(l[:i], of(2))
	if l[i].Kind == 2 {
		return l[i].Chan == made
	}
	return l[i].Chan == -1 || l[i].Chan < made
}

// serves tells whether an event says that it served somebody.
func serves(e api.Event) bool {
	return (e.Kind == 3 || e.Kind == 4) && e.Mate != -1
}

func service(l []api.Event, i int) bool {
	e := l[i]
	if i > 0 && serves(l[i-1]) {
		s := l[i-1]
		if e.Kind != 7 || e.G != s.Mate || e.Mate != s.G || e.Chan != s.Chan || !e.OK {
			return false
		}
		return s.Kind == 4 && e.Send || s.Kind == 3 && !e.Send && e.Value == s.Value
	}
	if e.Kind != 7 {
		return true
	}
	for k := i - 1; k >= 0; k-- {
		switch l[k].Kind {
		case 7:
			continue
		case 5:
			return l[k].G == e.Mate && l[k].Chan == e.Chan && !e.Send && !e.OK
		}
		return false
	}
	return false
}

// through are all values that came into a channel by the events up to a place, and how many went out.
func through(l []api.Event, channel, upTo int) ([]int, int) {
	var came []int
	went := 0
	for k := 0; k <= upTo; k++ {
		e := l[k]
		if e.Chan != channel {
			continue
		}
		switch {
		case e.Kind == 3:
			came = append(came, e.Value)
			if e.Mate != -1 {
				went++
			}
		case e.Kind == 4 && e.OK:
			if e.Mate != -1 && k+1 < len(l) {
				came = append(came, l[k+1].Value)
			}
			went++
		}
	}
	return came, went
}

func order(l []api.Event, i int) bool {
	e := l[i]
	if e.Kind != 3 && !(e.Kind == 4 && e.OK) {
		return true
	}
	came, went := through(l, e.Chan, i)
	if e.Kind == 4 || e.Mate != -1 {
		if went > len(came) {
			return e.Mate != -1 && i+1 == len(l)
		}
		if came[went-1] != e.Value {
			return false
		}
	}
	_, made := some(l[:i], func(x api.Event) bool { return x.Kind == 2 && x.Chan == e.Chan })
	return len(came)-went <= made.Value
}

func closing(l []api.Event, i int) bool {
	e := l[i]
	closed, _ := some(l[:i], func(x api.Event) bool { return x.Kind == 5 && x.Chan == e.Chan })
	switch {
	case e.Kind == 5, e.Kind == 3, e.Kind == 4 && e.Mate != -1:
		return closed == 0
	case e.Kind == 4 && !e.OK:
		came, went := through(l, e.Chan, i)
		return closed == 1 && len(came) == went
	}
	return true
}
