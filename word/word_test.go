package word

import (
	"math"
	"strings"
	"testing"

	"stevedore/api"
)

// reader is one of Byte, Two, Four, Six, with how many bytes it reads.
type reader struct {
	name string
	size int
	read func(string, int) (uint64, api.Errno)
}

func wide[T number](f func(string, int) (T, api.Errno)) func(string, int) (uint64, api.Errno) {
	return func(s string, at int) (uint64, api.Errno) {
		x, e := f(s, at)
		return uint64(x), e
	}
}

func readers() []reader {
	return []reader{
		{"Byte", 1, wide(Byte)},
		{"Two", 2, wide(Two)},
		{"Four", 4, wide(Four)},
		{"Six", 6, wide(Six)},
	}
}

// counted is n bytes, no two neighbours alike, with high bits among them.
func counted(n int) string {
	var b strings.Builder
	for i := range n {
		b.WriteByte(byte(0xf1 - 7*i))
	}
	return b.String()
}

// numberOf counts by the document's words: each byte 256 times as much as the one behind it.
func numberOf(s string) uint64 {
	var x uint64
	for i := range len(s) {
		x = x*256 + uint64(s[i])
	}
	return x
}

// P1.1: the numbers, at each place that has room.
func TestNumbersAtEachPlace(t *testing.T) {
	s := counted(20)
	for _, r := range readers() {
		for at := 0; at+r.size <= len(s); at++ {
			x, e := r.read(s, at)
			if want := numberOf(s[at : at+r.size]); x != want || e != api.OK {
				t.Errorf("%s at %d: %d %v, want %d", r.name, at, x, e, want)
			}
		}
	}
}

// P1.1: numbers written out, so that no helper of the test is trusted alone.
func TestNumbersWrittenOut(t *testing.T) {
	s := "\x00\xff\x01\x02\x03\x04\x05\x80"
	if x, e := Byte(s, 1); x != 0xff || e != api.OK {
		t.Error(x, e)
	}
	if x, e := Two(s, 1); x != 0xff01 || e != api.OK {
		t.Error(x, e)
	}
	if x, e := Four(s, 4); x != 0x03040580 || e != api.OK {
		t.Error(x, e)
	}
	if x, e := Six(s, 1); x != 0xff0102030405 || e != api.OK {
		t.Error(x, e)
	}
	if x, e := Six("\xff\xff\xff\xff\xff\xff", 0); x != 1<<48-1 || e != api.OK {
		t.Error(x, e)
	}
}

// P1.1: a text that is just long enough, one that is too short by a byte, and places far off.
func TestNumbersAtTheEnd(t *testing.T) {
	for _, r := range readers() {
		s := counted(r.size + 3)
		if x, e := r.read(s, 3); x != numberOf(s[3:]) || e != api.OK {
			t.Errorf("%s, just long enough: %d %v", r.name, x, e)
		}
		for _, at := range []int{4, len(s), len(s) + 1, math.MaxInt - 1, math.MaxInt} {
			if x, e := r.read(s, at); x != 0 || e != api.ErrShort {
				t.Errorf("%s at %d of %d bytes: %d %v", r.name, at, len(s), x, e)
			}
		}
		if x, e := r.read("", 0); x != 0 || e != api.ErrShort {
			t.Errorf("%s of nothing: %d %v", r.name, x, e)
		}
	}
}

// P1.1, R2: a place below 0 is told ahead of a text that is too short.
func TestNumbersBelowZero(t *testing.T) {
	for _, r := range readers() {
		for _, s := range []string{"", counted(20)} {
			for _, at := range []int{-1, -8, math.MinInt} {
				if x, e := r.read(s, at); x != 0 || e != api.ErrArg {
					t.Errorf("%s at %d of %d bytes: %d %v", r.name, at, len(s), x, e)
				}
			}
		}
	}
}

// P1.1: Text.
func TestText(t *testing.T) {
	rows := []struct {
		s     string
		at, n int
		want  string
		err   api.Errno
	}{
		{"abc", 1, 2, "bc", api.OK},
		{"abc", 0, 3, "abc", api.OK},
		{"abc", 1, 1, "b", api.OK},
		{"abc", 2, 0, "", api.OK},
		{"abc", 3, 0, "", api.OK},
		{"", 0, 0, "", api.OK},
		{"a\xff\x00b", 1, 2, "\xff\x00", api.OK},
		{"abc", 1, 3, "", api.ErrShort},
		{"abc", 0, 4, "", api.ErrShort},
		{"abc", 3, 1, "", api.ErrShort},
		{"abc", 4, 0, "", api.ErrShort},
		{"", 1, 0, "", api.ErrShort},
		{"abc", math.MaxInt, 0, "", api.ErrShort},
		{"abc", 1, math.MaxInt, "", api.ErrShort},
		{"abc", math.MaxInt, math.MaxInt, "", api.ErrShort},
		{"abc", -1, 1, "", api.ErrArg},
		{"abc", 1, -1, "", api.ErrArg},
		{"abc", -1, -1, "", api.ErrArg},
		{"abc", 4, -1, "", api.ErrArg},
		{"abc", -1, 9, "", api.ErrArg},
		{"abc", math.MinInt, math.MinInt, "", api.ErrArg},
		{"abc", math.MaxInt, math.MinInt, "", api.ErrArg},
	}
	for _, r := range rows {
		if u, e := Text(r.s, r.at, r.n); u != r.want || e != r.err {
			t.Errorf("Text(%q, %d, %d): %q %v, want %q %v", r.s, r.at, r.n, u, e, r.want, r.err)
		}
	}
}

// P1.1: Rest.
func TestRest(t *testing.T) {
	rows := []struct {
		s    string
		at   int
		want string
		err  api.Errno
	}{
		{"abc", 0, "abc", api.OK},
		{"abc", 1, "bc", api.OK},
		{"abc", 2, "c", api.OK},
		{"abc", 3, "", api.OK},
		{"", 0, "", api.OK},
		{"abc", 4, "", api.ErrShort},
		{"", 1, "", api.ErrShort},
		{"abc", math.MaxInt, "", api.ErrShort},
		{"abc", -1, "", api.ErrArg},
		{"", -1, "", api.ErrArg},
		{"abc", -math.MaxInt, "", api.ErrArg},
		{"abc", math.MinInt, "", api.ErrArg},
	}
	for _, r := range rows {
		if u, e := Rest(r.s, r.at); u != r.want || e != r.err {
			t.Errorf("Rest(%q, %d): %q %v, want %q %v", r.s, r.at, u, e, r.want, r.err)
		}
	}
}

// P1.2: Of, with n below 0, from 0 to 8, and above.
func TestOf(t *testing.T) {
	const x = 0x8102030405060708
	all := "\x81\x02\x03\x04\x05\x06\x07\x08"
	for n := 0; n <= 8; n++ {
		if s := Of(x, n); s != all[8-n:] {
			t.Errorf("Of(x, %d): %q", n, s)
		}
	}
	for _, n := range []int{-1, -8, math.MinInt} {
		if s := Of(x, n); s != "" {
			t.Errorf("Of(x, %d): %q", n, s)
		}
	}
	for _, n := range []int{9, 16, math.MaxInt} {
		if s := Of(x, n); s != all {
			t.Errorf("Of(x, %d): %q", n, s)
		}
	}
	if s := Of(258, 2); s != "\x01\x02" {
		t.Errorf("Of(258, 2): %q", s)
	}
	if s := Of(0, 3); s != "\x00\x00\x00" {
		t.Errorf("Of(0, 3): %q", s)
	}
	if s := Of(math.MaxUint64, 8); s != strings.Repeat("\xff", 8) {
		t.Errorf("Of(2^64 - 1, 8): %q", s)
	}
}

// P1.2: Set.
func TestSet(t *testing.T) {
	rows := []struct {
		s    string
		at   int
		text string
		want string
		err  api.Errno
	}{
		{"abcd", 1, "xy", "axyd", api.OK},
		{"abcd", 0, "x", "xbcd", api.OK},
		{"abcd", 2, "xy", "abxy", api.OK},
		{"abcd", 0, "wxyz", "wxyz", api.OK},
		{"abcd", 3, "\x00", "abc\x00", api.OK},
		{"abcd", 2, "", "abcd", api.OK},
		{"abcd", 4, "", "abcd", api.OK},
		{"", 0, "", "", api.OK},
		{"abcd", 3, "xy", "", api.ErrShort},
		{"abcd", 0, "vwxyz", "", api.ErrShort},
		{"abcd", 4, "x", "", api.ErrShort},
		{"abcd", 5, "", "", api.ErrShort},
		{"", 0, "x", "", api.ErrShort},
		{"abcd", math.MaxInt, "xy", "", api.ErrShort},
		{"abcd", -1, "x", "", api.ErrArg},
		{"abcd", -1, "", "", api.ErrArg},
		{"", -1, "x", "", api.ErrArg},
		{"abcd", math.MinInt, "x", "", api.ErrArg},
	}
	for _, r := range rows {
		if u, e := Set(r.s, r.at, r.text); u != r.want || e != r.err {
			t.Errorf("Set(%q, %d, %q): %q %v, want %q %v", r.s, r.at, r.text, u, e, r.want, r.err)
		}
	}
}

// P1.3: what was set is read, and all else is as it was.
func TestWhatWasSetIsRead(t *testing.T) {
	const long = 9
	s := counted(long)
	for at := 0; at <= long+1; at++ {
		for n := 0; n <= long+1; n++ {
			text := strings.Repeat("\x55", n)
			u, e := Set(s, at, text)
			if at+n > long {
				if u != "" || e != api.ErrShort {
					t.Errorf("set %d bytes at %d: %q %v", n, at, u, e)
				}
				continue
			}
			if got, e := Text(u, at, n); got != text || e != api.OK {
				t.Errorf("set %d bytes at %d, read %q %v", n, at, got, e)
			}
			if e != api.OK || len(u) != long || u[:at] != s[:at] || u[at+n:] != s[at+n:] {
				t.Errorf("set %d bytes at %d: %q %v", n, at, u, e)
			}
		}
	}
	if s != counted(long) {
		t.Error("the text that was handed in is another one")
	}
}

// P1.3: a number's bytes are its number's, whatever stands around them.
func TestBytesAreTheirNumbers(t *testing.T) {
	numbers := []uint64{0, 1, 127, 128, 255, 256, 258, 65535, 65536, 0x12345678, 0x87654321, 1<<32 - 1, 1 << 32, 0x8102030405060708, 1<<48 - 1, 1 << 48, math.MaxUint64}
	for _, r := range readers() {
		for _, x := range numbers {
			u, e := Set(counted(12), 5, Of(x, r.size))
			if e != api.OK {
				t.Errorf("set %d bytes: %v", r.size, e)
			}
			want := x & (1<<(8*r.size) - 1)
			if got, e := r.read(u, 5); got != want || e != api.OK {
				t.Errorf("%s of %d: %d %v, want %d", r.name, x, got, e, want)
			}
		}
	}
}

// R7: the layer's error has the layer's number, and tells it.
func TestErrorsTellTheirNumbers(t *testing.T) {
	_, e := Two("a", 0)
	var err error = e
	if e != 10 || err.Error() != "error 10" {
		t.Error(int(e), err.Error())
	}
	if _, e := Two("a", -1); e != 2 || e.Error() != "error 2" {
		t.Error(int(e), e.Error())
	}
}
