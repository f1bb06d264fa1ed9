package reel_test

import (
	"bytes"
	"encoding/binary"
	"math"
	"math/rand"
	"slices"
	"strings"
	"testing"

	"staithe/api"
	"staithe/reel"
)

const most = 1099511627776 // 2^40

// numbers are the edges: one byte and several, around each power of 256, the least and the greatest.
func numbers() []int {
	l := []int{0, 1, 2, 127, 128, 238, 239, 240, 241, 254, 255, 1000, 1 << 20, math.MaxInt32, math.MaxUint32, most - 1, most}
	for p := 256; p <= most; p *= 256 {
		l = append(l, p-256, p-240, p-1, p)
		if p < most {
			l = append(l, p+1, p+239, p+240, p*2, p*255, p*255+255)
		}
	}
	return l
}

var noNumbers = []int{-1, -2, -239, -240, -256, -most, math.MinInt32, math.MinInt, math.MinInt + 1,
	most + 1, most + 240, 1 << 41, 1<<48 - 1, 1 << 48, math.MaxInt - 1, math.MaxInt}

// spelled is what a number's bytes are, by the library's own means.
func spelled(n int) string {
	if n < 240 {
		return string([]byte{byte(n)})
	}
	b := bytes.TrimLeft(binary.BigEndian.AppendUint64(nil, uint64(n)), "\x00")
	return string([]byte{byte(240 + len(b))}) + string(b)
}

var behind = []string{"", "z", "\x00", "\xf0", "\xff", "\xf1\xf0", strings.Repeat("\x00", 9), strings.Repeat("\xff", 9)}

func TestPutAndSizeOfExamples(t *testing.T) {
	for _, c := range []struct {
		n int
		s string
	}{
		{0, "\x00"}, {7, "\x07"}, {239, "\xef"}, {240, "\xf1\xf0"}, {255, "\xf1\xff"}, {256, "\xf2\x01\x00"},
		{65535, "\xf2\xff\xff"}, {65536, "\xf3\x01\x00\x00"}, {66051, "\xf3\x01\x02\x03"}, {16777216, "\xf4\x01\x00\x00\x00"},
		{4294967295, "\xf4\xff\xff\xff\xff"}, {4294967296, "\xf5\x01\x00\x00\x00\x00"},
		{most - 1, "\xf5\xff\xff\xff\xff\xff"}, {most, "\xf6\x01\x00\x00\x00\x00\x00"},
	} {
		if s, errno := reel.Put(c.n); s != c.s || errno != api.OK {
			t.Errorf("Put(%d): %x, %v", c.n, s, errno)
		}
		if size := reel.Size(c.n); size != len(c.s) {
			t.Errorf("Size(%d): %d", c.n, size)
		}
	}
	if reel.Most != most {
		t.Errorf("Most: %d", reel.Most)
	}
}

func TestPutSizeAndTakeOfNumbers(t *testing.T) {
	l := numbers()
	for n := range 70000 {
		l = append(l, n)
	}
	for _, n := range l {
		want := spelled(n)
		if s, errno := reel.Put(n); s != want || errno != api.OK {
			t.Fatalf("Put(%d): %x, %v", n, s, errno)
		}
		if size := reel.Size(n); size != len(want) {
			t.Fatalf("Size(%d): %d", n, size)
		}
		for _, tail := range behind {
			if got, rest, errno := reel.Take(want + tail); got != n || rest != tail || errno != api.OK {
				t.Fatalf("Take(%x): %d, %x, %v", want+tail, got, rest, errno)
			}
		}
	}
}

func TestPutOfNoNumbers(t *testing.T) {
	for _, n := range noNumbers {
		if s, errno := reel.Put(n); s != "" || errno != api.ErrArg {
			t.Errorf("Put(%d): %x, %v", n, s, errno)
		}
		if size := reel.Size(n); size != 0 {
			t.Errorf("Size(%d): %d", n, size)
		}
	}
}

// begins is the number whose bytes a text begins with, looked for without the call that is tested.
func begins(s string) (int, bool) {
	for size := 1; size <= 7 && size <= len(s); size++ {
		n := int(s[0])
		if size > 1 {
			n = int(binary.BigEndian.Uint64(append(make([]byte, 9-size), s[1:size]...)))
		}
		if n <= most && spelled(n) == s[:size] {
			return n, true
		}
	}
	return 0, false
}

func takes(t *testing.T, s string) {
	t.Helper()
	n, rest, errno := reel.Take(s)
	want, ok := begins(s)
	if !ok {
		if n != 0 || rest != "" || errno != api.ErrForm {
			t.Fatalf("Take(%x): %d, %x, %v", s, n, rest, errno)
		}
		return
	}
	if put, _ := reel.Put(n); n != want || errno != api.OK || put+rest != s {
		t.Fatalf("Take(%x): %d, %x, %v", s, n, rest, errno)
	}
}

func TestTakeOfShortBytes(t *testing.T) {
	takes(t, "")
	for a := range 256 {
		takes(t, string([]byte{byte(a)}))
		for b := range 256 {
			takes(t, string([]byte{byte(a), byte(b)}))
			takes(t, string([]byte{0xf2, byte(a), byte(b)}))
		}
	}
}

func TestTakeOfLongBytes(t *testing.T) {
	for first := 238; first < 256; first++ {
		texts := []string{string([]byte{byte(first)})}
		for range 7 {
			var longer []string
			for _, s := range texts {
				takes(t, s)
				longer = append(longer, s+"\x00", s+"\x01", s+"\xf0", s+"\xff")
			}
			texts = longer
		}
	}
}

func TestTakeOfWrongBytes(t *testing.T) {
	for _, s := range []string{
		"", "\xf0", "\xf0\x00", "\xf0\xf0", // none, and what begins no number
		"\xf7\x01\x00\x00\x00\x00\x00\x00", "\xf8\x01\x00\x00\x00\x00\x00\x00\x00", "\xff\x01\x02\x03\x04\x05\x06\x07\x08\x09\x0a\x0b\x0c\x0d\x0e\x0f",
		"\xf1", "\xf2", "\xf2\x01", "\xf6", "\xf6\x01\x00\x00\x00\x00", // cut short
		"\xf1\x00", "\xf1\x07", "\xf1\xef", "\xf2\x00\xf0", "\xf2\x00\xff", "\xf3\x00\xff\xff", "\xf6\x00\xff\xff\xff\xff\xff", // too long
		"\xf6\x01\x00\x00\x00\x00\x01", "\xf6\x02\x00\x00\x00\x00\x00", "\xf6\xff\xff\xff\xff\xff\xff", // too great
	} {
		if n, rest, errno := reel.Take(s); n != 0 || rest != "" || errno != api.ErrForm {
			t.Errorf("Take(%x): %d, %x, %v", s, n, rest, errno)
		}
	}
}

func listed(l []int) string {
	texts := []string{spelled(len(l))}
	for _, n := range l {
		texts = append(texts, spelled(n))
	}
	return strings.Join(texts, "")
}

func lists() [][]int {
	l := [][]int{nil, {}, {0}, {239}, {240}, {5, 240}, {most}, {most, 0, most}, {0, 0, 0}, numbers()}
	for _, length := range []int{239, 240, 241, 255, 256, 257, 65535, 65536} {
		long := make([]int, length)
		for i := range long {
			long[i] = i * 7
		}
		l = append(l, long)
	}
	return l
}

func TestListsArePutAndTaken(t *testing.T) {
	for _, l := range lists() {
		want := listed(l)
		if s, errno := reel.PutList(l); s != want || errno != api.OK {
			t.Fatalf("PutList of %d: %.40x, %v", len(l), s, errno)
		}
		for _, bound := range []int{len(l), len(l) + 1, most, most + 1, math.MaxInt} {
			for _, tail := range behind {
				if got, rest, errno := reel.TakeList(want+tail, bound); !slices.Equal(got, l) || rest != tail || errno != api.OK {
					t.Fatalf("TakeList of %d, %d: %d, %x, %v", len(l), bound, len(got), rest, errno)
				}
			}
		}
	}
}

func TestPutListOfExamples(t *testing.T) {
	for want, l := range map[string][]int{
		"\x00": {}, "\x01\x00": {0}, "\x02\x05\xf1\xf0": {5, 240}, "\x03\xf2\x01\x00\xef\xf6\x01\x00\x00\x00\x00\x00": {256, 239, most},
	} {
		if s, errno := reel.PutList(l); s != want || errno != api.OK {
			t.Errorf("PutList(%v): %x, %v", l, s, errno)
		}
	}
}

func TestPutListWithNoNumber(t *testing.T) {
	for _, n := range noNumbers {
		for _, l := range [][]int{{n}, {n, 1}, {1, n}, {1, n, 240}, {n, n}} {
			if s, errno := reel.PutList(l); s != "" || errno != api.ErrArg {
				t.Errorf("PutList(%v): %x, %v", l, s, errno)
			}
		}
	}
}

func TestPutListLeavesItsList(t *testing.T) {
	room := []int{5, 240, 7, 9}
	reel.PutList(room[:2])
	reel.PutList(room[1:3])
	if !slices.Equal(room, []int{5, 240, 7, 9}) {
		t.Errorf("changed: %v", room)
	}
}

func failsList(t *testing.T, s string, bound int, want api.Errno) {
	t.Helper()
	if l, rest, errno := reel.TakeList(s, bound); len(l) != 0 || rest != "" || errno != want {
		t.Errorf("TakeList(%.40x, %d): %v, %x, %v", s, bound, l, rest, errno)
	}
}

func TestTakeListLongerThanMost(t *testing.T) {
	for _, l := range lists() {
		s := listed(l)
		for _, bound := range []int{len(l) - 1, -1, math.MinInt} {
			failsList(t, s, bound, api.ErrLong)
			failsList(t, s+"z", bound, api.ErrLong)
		}
	}
	// Its length is told ahead of what its numbers are.
	for _, s := range []string{"\x02", "\x02\xf0", "\x02\x05", "\x02\x05\xf1\x07", "\x03\x01\x01"} {
		failsList(t, s, 1, api.ErrLong)
	}
	failsList(t, "\x00", -1, api.ErrLong)
	failsList(t, spelled(most), most-1, api.ErrLong)
}

func TestTakeListOfWrongBytes(t *testing.T) {
	for _, bound := range []int{math.MinInt, -1, 0, 1, 240, math.MaxInt} {
		for _, s := range []string{"", "\xf0", "\xf1", "\xf1\x02\x05\x05", "\xf7\x01\x00\x00\x00\x00\x00\x00", "\xf6\x01\x00\x00\x00\x00\x01"} {
			failsList(t, s, bound, api.ErrForm)
		}
	}
	for _, s := range []string{"\x01", "\x02\x05", "\x01\xf0", "\x01\xf1", "\x01\xf1\x07", "\x02\xf0\x01", "\x02\x01\xf7", "\x03\x01\x01\xf2\x01", "\x02\x01\xf1\xef"} {
		failsList(t, s, 3, api.ErrForm)
		failsList(t, s, math.MaxInt, api.ErrForm)
	}
}

// Bytes may tell any length: no memory is taken that they can't bear.
func TestTakeListOfGreatLengths(t *testing.T) {
	for _, length := range []int{1000, 1 << 30, 1 << 34, most - 1, most} {
		failsList(t, spelled(length), most, api.ErrForm)
		failsList(t, spelled(length)+strings.Repeat("\x01", 999), math.MaxInt, api.ErrForm)
	}
}

func TestTakeListAnswersNewMemory(t *testing.T) {
	s := "\x03\x01\x02\x03z"
	a, _, _ := reel.TakeList(s, 3)
	b, _, _ := reel.TakeList(s, 3)
	a[0] = 9
	_ = append(a[:1], 9, 9)
	if !slices.Equal(b, []int{1, 2, 3}) {
		t.Errorf("shared: %v", b)
	}
	if c, rest, _ := reel.TakeList(s, 3); !slices.Equal(c, []int{1, 2, 3}) || rest != "z" {
		t.Errorf("shared: %v, %x", c, rest)
	}
}

// What is taken was put so: of any bytes what was taken is what putting gives, or none of their beginnings is a list's.
func TestWhatIsTakenWasPutSo(t *testing.T) {
	r := rand.New(rand.NewSource(3))
	for range 200000 {
		s := make([]byte, r.Intn(9))
		for i := range s {
			s[i] = "\x00\x01\x02\x03\x05\xef\xf0\xf1\xf2\xf3\xff"[r.Intn(11)]
		}
		takes(t, string(s))
		l, rest, errno := reel.TakeList(string(s), 9)
		if errno == api.OK {
			if put, _ := reel.PutList(l); put+rest != string(s) {
				t.Fatalf("TakeList(%x): %v, %x", s, l, rest)
			}
			continue
		}
		if want := listErrno(string(s), 9); errno != want || len(l) != 0 || rest != "" {
			t.Fatalf("TakeList(%x): %v, %x, %v, not %v", s, l, rest, errno, want)
		}
	}
}

// listErrno is what is wrong with a list's bytes.
func listErrno(s string, bound int) api.Errno {
	length, ok := begins(s)
	if !ok {
		return api.ErrForm
	}
	if length > bound {
		return api.ErrLong
	}
	for range length {
		n, _ := begins(s)
		s = s[len(spelled(n)):]
		if _, ok := begins(s); !ok {
			return api.ErrForm
		}
	}
	return api.OK
}

func TestCallsTellTheSame(t *testing.T) {
	for _, n := range append(numbers(), noNumbers...) {
		a, e := reel.Put(n)
		if b, f := reel.Put(n); a != b || e != f || reel.Size(n) != len(b) {
			t.Errorf("Put(%d): %x, %v, then %x, %v", n, a, e, b, f)
		}
	}
}
