package sum

import (
	"math"
	"strings"
	"testing"
)

// plain is the sum by the document's words: the texts joined, word by word, what is above 65,535 added again at the bottom each time.
func plain(l ...string) uint16 {
	s := strings.Join(l, "")
	if len(s)%2 == 1 {
		s += "\x00"
	}
	n := 0
	for i := 0; i < len(s); i += 2 {
		n += 256*int(s[i]) + int(s[i+1])
		if n > 65535 {
			n -= 65535
		}
	}
	return uint16(n)
}

// mixed is n bytes, high and low ones, all different from their neighbours.
func mixed(n int) string {
	var b strings.Builder
	for i := range n {
		b.WriteByte(byte(0xf3 - 59*i))
	}
	return b.String()
}

// two is a word as a text.
func two(w uint16) string { return string([]byte{byte(w >> 8), byte(w)}) }

// put is s with a word in place of the one that stood there.
func put(s string, at int, w uint16) string { return s[:at] + two(w) + s[at+2:] }

// at is the word that stands at a place.
func at(s string, i int) uint16 { return uint16(s[i])<<8 | uint16(s[i+1]) }

// edges are the words at which sums go over, and some between.
func edges() []uint16 {
	return []uint16{0, 1, 2, 255, 256, 257, 772, 0x1234, 32767, 32768, 32769, 0xfedc, 65279, 65280, 65533, 65534, 65535}
}

// P2.1: sums and checksums written out.
func TestSumsWrittenOut(t *testing.T) {
	rows := []struct {
		texts []string
		want  uint16
	}{
		{nil, 0},
		{[]string{""}, 0},
		{[]string{"", "", ""}, 0},
		{[]string{"\x01\x02", "\x03\x04"}, 1030},
		{[]string{"\x01\x02\x03\x04"}, 1030},
		{[]string{"\x07"}, 0x0700},
		{[]string{"\xff"}, 0xff00},
		{[]string{"\x00\x07"}, 7},
		{[]string{"\x01\x02\x03"}, 0x0402},
		{[]string{"\x01", "\x02"}, 0x0102},
		{[]string{"\x01", "\x02", "\x03"}, 0x0402},
		{[]string{"\x01", "", "\x02"}, 0x0102},
		{[]string{"\x01\x02\x03", "\x04\x05\x06"}, 0x090c},
		{[]string{"\x01\x02\x03", "\x04", "", "\x05\x06"}, 0x090c},
		{[]string{"\x00"}, 0},
		{[]string{"\x00\x00\x00\x00"}, 0},
		{[]string{"\x00", "\x00\x00"}, 0},
		{[]string{"\xff\xff"}, 65535},
		{[]string{"\xff\xff\x00\x00"}, 65535},
		{[]string{"\xff\xfe\x00\x01"}, 65535},
		{[]string{"\xff\xff\x00\x01"}, 1},
		{[]string{"\xff\xfe\x00\x02"}, 1},
		{[]string{"\xff\xff\xff\xff"}, 65535},
		{[]string{"\x80\x00\x80\x00"}, 1},
		{[]string{"\x80\x00", "\x80\x00", "\x80\x00"}, 0x8001},
		{[]string{"\xf0\x00\xf0"}, 0xe001},
		{[]string{"\x00\x01\xf2\x03\xf4\xf5\xf6\xf7"}, 0xddf2},
	}
	for _, r := range rows {
		if n := Add(r.texts...); n != r.want {
			t.Errorf("Add(%q): %d, want %d", r.texts, n, r.want)
		}
		if n := Of(r.texts...); n != 65535-r.want {
			t.Errorf("Of(%q): %d, want %d", r.texts, n, 65535-r.want)
		}
		if ok := Right(r.texts...); ok != (r.want == 65535) {
			t.Errorf("Right(%q): %v", r.texts, ok)
		}
	}
}

// P2.1: however texts are cut, they are taken as one.
func TestTextsAreOne(t *testing.T) {
	for n := range 12 {
		s := mixed(n)
		want := plain(s)
		for i := 0; i <= n; i++ {
			for j := i; j <= n; j++ {
				if got := Add(s[:i], s[i:j], s[j:]); got != want {
					t.Errorf("%d bytes cut at %d and %d: %d, want %d", n, i, j, got, want)
				}
			}
		}
	}
}

// P2.1: each text of two bytes is its own sum, and right only as 65,535.
func TestEachWord(t *testing.T) {
	for w := range 1 << 16 {
		s := two(uint16(w))
		if int(Add(s)) != w || int(Of(s)) != 65535-w || Right(s) != (w == 65535) {
			t.Fatalf("word %d: %d %d %v", w, Add(s), Of(s), Right(s))
		}
	}
}

// P2.1: sums far above 65,535, of which what is above goes around more than once.
func TestLongTexts(t *testing.T) {
	rows := []struct {
		s    string
		want uint16
	}{
		{strings.Repeat("\xff\xff", 1<<17+3), 65535},
		{strings.Repeat("\xff\xff", 1<<17+3) + "\x00\x01", 1},
		{strings.Repeat("\xff", 1<<18+1), 0xff00},
		{strings.Repeat("\x00\x01", 65535), 65535},
		{strings.Repeat("\x00\x01", 65536), 1},
		{strings.Repeat("\x00", 1<<18), 0},
	}
	for i, r := range rows {
		if n := Add(r.s); n != r.want || n != plain(r.s) {
			t.Errorf("row %d: %d, want %d", i, n, r.want)
		}
	}
	for _, n := range []int{65534, 65535, 65536, 200001} {
		if s := mixed(n); Add(s) != plain(s) {
			t.Errorf("%d bytes: %d, want %d", n, Add(s), plain(s))
		}
	}
	many := strings.Split(strings.Repeat("a,bcd,,ef,", 5000), ",")
	if n := Add(many...); n != plain(many...) {
		t.Errorf("many texts: %d, want %d", n, plain(many...))
	}
}

// R5: the texts that are handed in as a list stay as they are.
func TestArgumentsStay(t *testing.T) {
	l := []string{"abc", "", "d"}
	Add(l...)
	Of(l...)
	Right(l...)
	if l[0] != "abc" || l[1] != "" || l[2] != "d" {
		t.Errorf("%q", l)
	}
}

// P2.1: heads, with n below 0 and above 65,535.
func TestHead(t *testing.T) {
	rows := []struct {
		from, to uint32
		proto    uint8
		n        int
		want     string
	}{
		{0, 0, 0, 0, "\x00\x00\x00\x00\x00\x00\x00\x00\x00\x00\x00\x00"},
		{1, 2, 6, 3, "\x00\x00\x00\x01\x00\x00\x00\x02\x00\x06\x00\x03"},
		{0x81020304, 0xf5060708, 17, 0x1234, "\x81\x02\x03\x04\xf5\x06\x07\x08\x00\x11\x12\x34"},
		{math.MaxUint32, math.MaxUint32, 255, 65535, "\xff\xff\xff\xff\xff\xff\xff\xff\x00\xff\xff\xff"},
		{1, 2, 6, 65536, "\x00\x00\x00\x01\x00\x00\x00\x02\x00\x06\x00\x00"},
		{1, 2, 6, 65537, "\x00\x00\x00\x01\x00\x00\x00\x02\x00\x06\x00\x01"},
		{1, 2, 6, 3*65536 + 258, "\x00\x00\x00\x01\x00\x00\x00\x02\x00\x06\x01\x02"},
		{1, 2, 6, -1, "\x00\x00\x00\x01\x00\x00\x00\x02\x00\x06\xff\xff"},
		{1, 2, 6, -65535, "\x00\x00\x00\x01\x00\x00\x00\x02\x00\x06\x00\x01"},
		{1, 2, 6, -65536, "\x00\x00\x00\x01\x00\x00\x00\x02\x00\x06\x00\x00"},
		{1, 2, 6, -65537, "\x00\x00\x00\x01\x00\x00\x00\x02\x00\x06\xff\xff"},
		{1, 2, 6, math.MaxInt, "\x00\x00\x00\x01\x00\x00\x00\x02\x00\x06\xff\xff"},
		{1, 2, 6, math.MinInt, "\x00\x00\x00\x01\x00\x00\x00\x02\x00\x06\x00\x00"},
	}
	for _, r := range rows {
		if s := Head(r.from, r.to, r.proto, r.n); s != r.want {
			t.Errorf("Head(%d, %d, %d, %d): %q, want %q", r.from, r.to, r.proto, r.n, s, r.want)
		}
	}
}

// P2.2: Turn, held against the sum of its three words, at all the edges.
func TestTurn(t *testing.T) {
	for _, sum := range edges() {
		for _, was := range edges() {
			for _, is := range edges() {
				want := 65535 - plain(two(65535-sum), two(65535-was), two(is))
				if got := Turn(sum, was, is); got != want {
					t.Fatalf("Turn(%d, %d, %d): %d, want %d", sum, was, is, got, want)
				}
			}
		}
	}
}

// P2.2: turns written out.
func TestTurnsWrittenOut(t *testing.T) {
	rows := []struct{ sum, was, is, want uint16 }{
		{0, 0, 0, 0},
		{65535, 65535, 0, 65535},
		{65535, 65535, 65535, 0},
		{65535, 0, 0, 0},
		{0, 65535, 0, 0},
		{0, 65535, 65535, 0},
		{65535, 0, 1, 65534},
		{65535, 65535, 1, 65534},
		{64505, 772, 5, 65272},
		{0xdd2f, 0x5555, 0x3285, 0},
	}
	for _, r := range rows {
		if got := Turn(r.sum, r.was, r.is); got != r.want {
			t.Errorf("Turn(%d, %d, %d): %d, want %d", r.sum, r.was, r.is, got, r.want)
		}
	}
}

// P2.3: a text of even length that carries its checksum where a word was 0 is right.
func TestWithItsChecksumRight(t *testing.T) {
	texts := []string{"\x00\x00", "\x00\x00\x00\x00", "\xff\xff\xff\xff", "\xff\xff\x00\x00\x00\x00", mixed(2), mixed(6), mixed(20), mixed(1500)}
	for _, s := range texts {
		for i := 0; i < len(s); i += 2 {
			u := put(s, i, 0)
			if u = put(u, i, Of(u)); !Right(u) {
				t.Errorf("%d bytes, checksum at %d: sum %d", len(u), i, Add(u))
			}
			if !Right(u[:i], u[i:]) || !Right(u[:i+1], u[i+1:]) {
				t.Errorf("%d bytes, checksum at %d, cut there: not right", len(u), i)
			}
		}
	}
}

// P2.3: such a text stays right, if another word becomes another one, and its checksum Turn of both.
func TestTurnedStaysRight(t *testing.T) {
	for _, was := range edges() {
		for _, is := range edges() {
			for _, other := range edges() {
				s := two(was) + "\x00\x00" + two(other)
				s = put(s, 2, Of(s))
				u := put(s, 0, is)
				u = put(u, 2, Turn(at(s, 2), was, is))
				if zero := u == "\x00\x00\x00\x00\x00\x00"; Right(u) == zero {
					t.Fatalf("%d becomes %d beside %d: %q, sum %d", was, is, other, u, Add(u))
				}
			}
		}
	}
}

// P2.3: and so does a longer one, again and again.
func TestTurnedAgainAndAgain(t *testing.T) {
	s := put(mixed(40), 10, 0)
	s = put(s, 10, Of(s))
	for round := range 400 {
		i := 2 * (round % 20)
		if i == 10 {
			continue
		}
		was, is := at(s, i), uint16(round*7919)
		s = put(s, i, is)
		s = put(s, 10, Turn(at(s, 10), was, is))
		if !Right(s) {
			t.Fatalf("round %d: %d", round, Add(s))
		}
	}
}

// P2.3: words that are exchanged do not change a sum.
func TestExchanged(t *testing.T) {
	s := mixed(16)
	for i := 0; i < len(s); i += 2 {
		for j := 0; j < len(s); j += 2 {
			u := put(put(s, i, at(s, j)), j, at(s, i))
			if Add(u) != Add(s) || Of(u) != Of(s) {
				t.Errorf("words at %d and %d exchanged: %d, was %d", i, j, Add(u), Add(s))
			}
		}
	}
}

// P2.3: a word that becomes another one changes the sum, but 0 and 65,535 (beside a word that is not 0).
func TestAnotherWordAnotherSum(t *testing.T) {
	for _, other := range []uint16{1, 0x1234, 65535} {
		seen := map[uint16]int{}
		for w := range 1 << 16 {
			n := Add(two(other), two(uint16(w)))
			if was, ok := seen[n]; ok && !(was == 0 && w == 65535) {
				t.Fatalf("%d and %d beside %d: both %d", was, w, other, n)
			}
			seen[n] = w
		}
		if Add(two(other), two(0)) != Add(two(other), two(65535)) {
			t.Errorf("0 and 65,535 beside %d are not the same", other)
		}
	}
}

// The chapter's examples.
func TestExamples(t *testing.T) {
	if n := Add("\x01\x02", "\x03\x04"); n != 1030 {
		t.Error(n)
	}
	if n := Of(); n != 65535 {
		t.Error(n)
	}
	if n := Of("\xff\xff"); n != 0 {
		t.Error(n)
	}
	if a, b := Turn(Of("\x01\x02\x03\x04"), 772, 5), Of("\x01\x02\x00\x05"); a != b {
		t.Error(a, b)
	}
}

// The iterator ends when the one who ranges over it does, at each word.
func TestWordsCanBeLeft(t *testing.T) {
	l := []string{"\x01\x02\x03", "\x04\x05"}
	want := []uint16{0x0102, 0x0304, 0x0500}
	for stop := 1; stop <= len(want); stop++ {
		var got []uint16
		for w := range words(l) {
			got = append(got, w)
			if len(got) == stop {
				break
			}
		}
		for i := range got {
			if got[i] != want[i] {
				t.Errorf("left behind %d: %v", stop, got)
			}
		}
	}
}
