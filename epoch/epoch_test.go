package epoch_test

import (
	"math"
	"testing"

	"staithe/api"
	"staithe/epoch"
)

// noEpochs are numbers just beside what is an epoch, in each half and in both.
var noEpochs = []epoch.Epoch{
	1, 5, api.MaxClock, 1<<32 - 1, // a clock of nobody
	1 << 32, 256 << 32, // a tid at no clock
	1<<32 + api.MaxClock + 1, 256<<32 + api.MaxClock + 1, 1<<33 - 1,
	257<<32 + 1, 257<<32 + api.MaxClock, 1<<63 + 1, // no tid
	1<<63 + 1<<32 + 1, (1<<32-1)<<32 + 1,
	epoch.Tail - 1, epoch.Tail - 1<<32, epoch.Tail >> 1,
}

var ints = []int{
	math.MinInt, math.MinInt + 1, math.MinInt32, -1 << 32, -api.MaxClock, -256, -2, -1, 0, 1, 2, 7,
	254, 255, 256, 257, 512, api.MaxClock - 1, api.MaxClock, api.MaxClock + 1,
	math.MaxInt32, math.MaxUint32, 1 << 32, 1<<32 + 1, 1<<32 + 7, math.MaxInt - 1, math.MaxInt,
}

// packed are the epochs of the least, ordinary and greatest tids and clocks.
func packed(t *testing.T) []epoch.Epoch {
	var l []epoch.Epoch
	for _, tid := range []int{0, 1, 2, 254, 255} {
		for _, clock := range []int{1, 2, 7, api.MaxClock - 1, api.MaxClock} {
			e, errno := epoch.Pack(tid, clock)
			if errno != api.OK {
				t.Fatalf("Pack(%d, %d): %v", tid, clock, errno)
			}
			l = append(l, e)
		}
	}
	return l
}

func every(t *testing.T) []epoch.Epoch {
	l := append(packed(t), epoch.None, epoch.Tail)
	return append(l, noEpochs...)
}

func isTid(n int) bool   { return 0 <= n && n <= 255 }
func isClock(n int) bool { return 1 <= n && n <= 1048576 }

func TestConstants(t *testing.T) {
	if uint64(epoch.None) != 0 || uint64(epoch.Tail) != math.MaxUint64 {
		t.Errorf("None %d, Tail %d", uint64(epoch.None), uint64(epoch.Tail))
	}
}

func TestPackIsTheClockAndTheTidsNextNumber(t *testing.T) {
	for _, c := range []struct {
		tid, clock int
		want       uint64
	}{
		{2, 7, 3*4294967296 + 7},
		{0, 1, 4294967297},
		{0, 1048576, 4294967296 + 1048576},
		{255, 1, 256*4294967296 + 1},
		{255, 1048576, 256*4294967296 + 1048576},
	} {
		if e, errno := epoch.Pack(c.tid, c.clock); uint64(e) != c.want || errno != api.OK {
			t.Errorf("Pack(%d, %d): %d, %v", c.tid, c.clock, uint64(e), errno)
		}
	}
}

func TestPackOfAllNumbers(t *testing.T) {
	for _, tid := range ints {
		for _, clock := range ints {
			want, wantErrno := epoch.None, api.ErrArg
			if isTid(tid) && isClock(clock) {
				want, wantErrno = epoch.Epoch(uint64(clock)+uint64(tid+1)*4294967296), api.OK
			}
			if e, errno := epoch.Pack(tid, clock); e != want || errno != wantErrno {
				t.Errorf("Pack(%d, %d): %d, %v", tid, clock, e, errno)
			}
		}
	}
}

func TestWhatIsPackedIsTold(t *testing.T) {
	seen := map[epoch.Epoch]bool{}
	told := func(tid, clock int) epoch.Epoch {
		e, errno := epoch.Pack(tid, clock)
		if errno != api.OK || e.Tid() != tid || e.Clock() != clock || epoch.Check(e) != api.OK {
			t.Fatalf("Pack(%d, %d): %v, tid %d, clock %d, %v", tid, clock, errno, e.Tid(), e.Clock(), epoch.Check(e))
		}
		return e
	}
	for tid := range api.MaxTid {
		for _, clock := range []int{1, 2, 3, 255, 256, 257, 65535, 65536, api.MaxClock - 1, api.MaxClock} {
			e := told(tid, clock)
			if seen[e] {
				t.Errorf("Pack(%d, %d) is another one's, too", tid, clock)
			}
			seen[e] = true
		}
	}
	for _, tid := range []int{0, 255} {
		for clock := 1; clock <= api.MaxClock; clock++ {
			told(tid, clock)
		}
	}
}

func TestWhatIsNoTidsClockHasNeitherPart(t *testing.T) {
	for _, e := range append([]epoch.Epoch{epoch.None, epoch.Tail}, noEpochs...) {
		tid, clock := e.Tid, e.Clock
		if tid() != -1 || clock() != 0 {
			t.Errorf("%#x: tid %d, clock %d", uint64(e), tid(), clock())
		}
	}
}

func TestCheck(t *testing.T) {
	for _, e := range append(packed(t), epoch.None, epoch.Tail) {
		if errno := epoch.Check(e); errno != api.OK {
			t.Errorf("%#x: %v", uint64(e), errno)
		}
	}
	for _, e := range noEpochs {
		if errno := epoch.Check(e); errno != api.ErrForm {
			t.Errorf("%#x: %v", uint64(e), errno)
		}
	}
}

func TestNextIsTheSameTidsNextClock(t *testing.T) {
	for _, e := range packed(t) {
		for _, most := range ints {
			want, wantErrno := epoch.None, api.ErrArg
			switch {
			case !isClock(most):
			case e.Clock() >= most:
				wantErrno = api.ErrFull
			default:
				want, wantErrno = e+1, api.OK
			}
			got, errno := epoch.Next(e, most)
			if got != want || errno != wantErrno {
				t.Errorf("Next(%#x, %d): %#x, %v", uint64(e), most, uint64(got), errno)
			}
			if errno == api.OK && (got.Tid() != e.Tid() || got.Clock() != e.Clock()+1) {
				t.Errorf("Next(%#x, %d): tid %d, clock %d", uint64(e), most, got.Tid(), got.Clock())
			}
		}
	}
}

func TestNextAtMost(t *testing.T) {
	for _, most := range []int{1, 2, 7, api.MaxClock} {
		e, _ := epoch.Pack(2, most)
		if n, errno := epoch.Next(e, most); n != epoch.None || errno != api.ErrFull {
			t.Errorf("at most %d: %d, %v", most, n, errno)
		}
	}
	e, _ := epoch.Pack(2, 9)
	if n, errno := epoch.Next(e, 7); n != epoch.None || errno != api.ErrFull {
		t.Errorf("above most: %d, %v", n, errno)
	}
	e, _ = epoch.Pack(255, api.MaxClock-1)
	if n, errno := epoch.Next(e, api.MaxClock); n.Tid() != 255 || n.Clock() != api.MaxClock || errno != api.OK {
		t.Errorf("to the greatest clock: %d, %v", n, errno)
	}
}

func TestNextOfWhatIsNoTidsClock(t *testing.T) {
	for _, e := range append([]epoch.Epoch{epoch.None, epoch.Tail}, noEpochs...) {
		for _, most := range ints {
			if n, errno := epoch.Next(e, most); n != epoch.None || errno != api.ErrArg {
				t.Errorf("Next(%#x, %d): %d, %v", uint64(e), most, n, errno)
			}
		}
	}
}

func TestSeen(t *testing.T) {
	for _, clock := range ints {
		if !epoch.Seen(epoch.None, clock) {
			t.Errorf("None is not seen at %d", clock)
		}
		for _, e := range append([]epoch.Epoch{epoch.Tail}, noEpochs...) {
			if epoch.Seen(e, clock) {
				t.Errorf("%#x is seen at %d", uint64(e), clock)
			}
		}
		for _, e := range packed(t) {
			if epoch.Seen(e, clock) != (e.Clock() <= clock) {
				t.Errorf("Seen(%#x, %d): %t", uint64(e), clock, epoch.Seen(e, clock))
			}
		}
	}
}

func TestLess(t *testing.T) {
	for _, a := range every(t) {
		for _, b := range every(t) {
			want := a.Tid() >= 0 && a.Tid() == b.Tid() && a.Clock() < b.Clock()
			if epoch.Less(a, b) != want {
				t.Errorf("Less(%#x, %#x): %t", uint64(a), uint64(b), !want)
			}
		}
	}
	a, _ := epoch.Pack(3, 8)
	b, _ := epoch.Pack(3, 9)
	c, _ := epoch.Pack(4, 9)
	if !epoch.Less(a, b) || epoch.Less(b, a) || epoch.Less(a, a) || epoch.Less(a, c) || epoch.Less(a, epoch.Tail) || epoch.Less(epoch.None, a) {
		t.Error("Less of two tids")
	}
}
