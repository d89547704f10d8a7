package addr

import (
	"math"
	"net/netip"
	"slices"
	"strconv"
	"strings"
	"testing"
	"unsafe"

	"stevedore/api"
)

const last = 1<<32 - 1

// drawer makes numbers that look like chance and are the same each time.
type drawer uint64

func (d *drawer) next() uint64 {
	*d = *d*6364136223846793005 + 1442695040888963407
	return uint64(*d >> 24)
}

func (d *drawer) pair() api.Pair {
	return pair(uint32(d.next()), uint16(d.next()), uint32(d.next()), uint16(d.next()))
}

func pair(from uint32, fromPort uint16, to uint32, toPort uint16) api.Pair {
	return api.Pair{From: api.Addr{IP: from, Port: fromPort}, To: api.Addr{IP: to, Port: toPort}}
}

// ip is the address of four numbers.
func ip(a, b, c, d uint32) uint32 { return a<<24 | b<<16 | c<<8 | d }

// library is an address's text as the library writes it.
func library(x uint32) string {
	return netip.AddrFrom4([4]byte{byte(x >> 24), byte(x >> 16), byte(x >> 8), byte(x)}).String()
}

// some are addresses at all edges of bytes and kinds, and drawn ones.
func some() []uint32 {
	out := []uint32{0, 1, last, last - 1, ip(1, 2, 3, 4), ip(4, 3, 2, 1), ip(100, 20, 3, 0)}
	for _, b := range []uint32{0, 1, 9, 10, 99, 100, 126, 127, 128, 199, 200, 223, 224, 239, 240, 254, 255} {
		for place := range 4 {
			out = append(out, b<<(8*place), b<<(8*place)|^uint32(255<<(8*place)))
		}
	}
	d := drawer(6)
	for range 300 {
		out = append(out, uint32(d.next()))
	}
	return out
}

// parsed is what Parse answers where it must not refuse.
func parsed(t *testing.T, s string) uint32 {
	t.Helper()
	x, e := Parse(s)
	if e != api.OK {
		t.Fatalf("Parse(%q): %v", s, e)
	}
	return x
}

// P6.1: the chapter's example, and the first and the last address.
func TestText(t *testing.T) {
	for _, c := range []struct {
		ip   uint32
		want string
	}{
		{167_772_161, "10.0.0.1"},
		{0, "0.0.0.0"},
		{last, "255.255.255.255"},
		{ip(1, 2, 3, 4), "1.2.3.4"},
		{ip(100, 20, 3, 255), "100.20.3.255"},
		{255, "0.0.0.255"},
		{255 << 24, "255.0.0.0"},
	} {
		if s := Text(c.ip); s != c.want {
			t.Errorf("Text(%d): %q, want %q", c.ip, s, c.want)
		}
	}
}

// P6.1: held against the library's.
func TestTextAsTheLibrary(t *testing.T) {
	for _, x := range some() {
		if s := Text(x); s != library(x) {
			t.Errorf("Text(%d): %q, want %q", x, s, library(x))
		}
	}
}

// P6.1: texts of addresses.
func TestParse(t *testing.T) {
	for _, c := range []struct {
		s    string
		want uint32
	}{
		{"10.0.0.1", 167_772_161},
		{"0.0.0.0", 0},
		{"255.255.255.255", last},
		{"1.2.3.4", ip(1, 2, 3, 4)},
		{"0.255.0.255", ip(0, 255, 0, 255)},
		{"249.250.199.10", ip(249, 250, 199, 10)},
	} {
		if x, e := Parse(c.s); x != c.want || e != api.OK {
			t.Errorf("Parse(%q): %d, %v, want %d", c.s, x, e, c.want)
		}
	}
}

// P6.1: what is no address's text.
func TestParseRefuses(t *testing.T) {
	for _, s := range []string{
		"10.0.0.01", "1.2.3", "256.0.0.1", // the chapter's
		"", ".", "...", "....", "1", "1.2", "1.2.3.4.5", "1.2.3.4.5.6", "167772161", // too few, too many
		"1.2.3.", ".1.2.3", "1..2.3", "1...2", "1.2..4", // one left out
		".1.2.3.4", "1.2.3.4.", "1.2.3.4..", "..1.2.3.4", // a stop ahead or behind
		"1.2.3.4/32", "1.2.3.4:80", "::1.2.3.4", "1,2,3,4",
		strings.Repeat("1.", 1000), strings.Repeat("1", 1000) + ".1.1.1",
	} {
		if x, e := Parse(s); x != 0 || e != api.ErrForm {
			t.Errorf("Parse(%q): %d, %v", s, x, e)
		}
	}
}

// P6.1: what is no number, at each of the four places.
func TestParseRefusesNumbers(t *testing.T) {
	for _, n := range []string{
		"", "256", "257", "260", "300", "999", "1000", "4294967296", "18446744073709551616", "18446744073709551617",
		"00", "000", "01", "010", "0255", "001", "+1", "-1", "-0", "+0", "+", "-",
		" ", " 1", "1 ", "1 2", "\t1", "1\n", "\x001", "1\x00", "a", "1a", "a1", "f", "ff", "0x1", "0b1", "0o7", "1e1", "1_0", "1_", "_1",
		"\xb2", "²", "١", "1\xff",
	} {
		for place := range 4 {
			numbers := []string{"1", "0", "255", "10"}
			numbers[place] = n
			s := strings.Join(numbers, ".")
			if x, e := Parse(s); x != 0 || e != api.ErrForm {
				t.Errorf("Parse(%q): %d, %v", s, x, e)
			}
		}
	}
}

// P6.1: all numbers of up to three digits, at each of the four places.
func TestParseNumbers(t *testing.T) {
	for n := range uint32(1000) {
		for place := range 4 {
			numbers := []string{"0", "0", "0", "0"}
			numbers[place] = strconv.Itoa(int(n))
			want, e := n<<(24-8*place), api.OK
			if n > 255 {
				want, e = 0, api.ErrForm
			}
			if x, f := Parse(strings.Join(numbers, ".")); x != want || f != e {
				t.Errorf("Parse(%q): %d, %v, want %d, %v", numbers, x, f, want, e)
			}
		}
	}
}

// P6.1: texts with one byte changed, put in or taken out are held against the library's reading.
func TestParseAsTheLibrary(t *testing.T) {
	try := func(s string) {
		want, e := uint32(0), api.ErrForm
		if a, err := netip.ParseAddr(s); err == nil && a.Is4() {
			b := a.As4()
			want, e = ip(uint32(b[0]), uint32(b[1]), uint32(b[2]), uint32(b[3])), api.OK
		}
		if x, f := Parse(s); x != want || f != e {
			t.Errorf("Parse(%q): %d, %v, want %d, %v", s, x, f, want, e)
		}
	}
	for _, s := range []string{"10.0.0.1", "255.255.255.255", "192.168.100.7", "0.0.0.0", "25.6.99.249"} {
		for at := range len(s) + 1 {
			for b := range 256 {
				c := string([]byte{byte(b)})
				try(s[:at] + c + s[at:])
				if at < len(s) {
					try(s[:at] + c + s[at+1:])
				}
			}
			if at < len(s) {
				try(s[:at] + s[at+1:])
			}
		}
	}
}

// P6.1: both ends of what each first byte has, but the addresses of none and of all.
func TestKindByTheFirstByte(t *testing.T) {
	for first := range uint32(256) {
		want := api.KindOne
		switch {
		case first == 127:
			want = api.KindLoop
		case first >= 224 && first < 240:
			want = api.KindMany
		case first >= 240:
			want = api.KindKept
		}
		for _, x := range []uint32{ip(first, 0, 0, 0), ip(first, 0, 0, 1), ip(first, 255, 255, 254), ip(first, 255, 255, 255)} {
			if x == 0 || x == last {
				continue
			}
			if k := Kind(x); k != want {
				t.Errorf("Kind(%s): %d, want %d", library(x), k, want)
			}
		}
	}
}

// P6.1: kinds by name, at the edges that the chapter names.
func TestKind(t *testing.T) {
	for _, c := range []struct {
		s    string
		want uint8
	}{
		{"0.0.0.0", api.KindNone}, {"255.255.255.255", api.KindAll},
		{"0.0.0.1", api.KindOne}, {"0.1.0.0", api.KindOne}, {"0.255.255.255", api.KindOne}, {"10.0.0.1", api.KindOne},
		{"126.0.0.0", api.KindOne}, {"126.255.255.255", api.KindOne},
		{"127.0.0.0", api.KindLoop}, {"127.0.0.1", api.KindLoop}, {"127.255.255.255", api.KindLoop},
		{"128.0.0.0", api.KindOne}, {"128.255.255.255", api.KindOne},
		{"223.0.0.0", api.KindOne}, {"223.255.255.255", api.KindOne},
		{"224.0.0.0", api.KindMany}, {"224.255.255.255", api.KindMany},
		{"239.0.0.0", api.KindMany}, {"239.255.255.255", api.KindMany},
		{"240.0.0.0", api.KindKept}, {"240.255.255.255", api.KindKept},
		{"255.0.0.0", api.KindKept}, {"255.255.255.254", api.KindKept},
		{"254.255.255.255", api.KindKept}, {"255.254.255.255", api.KindKept}, {"255.255.254.255", api.KindKept},
	} {
		if k := Kind(parsed(t, c.s)); k != c.want {
			t.Errorf("Kind(%s): %d, want %d", c.s, k, c.want)
		}
	}
}

// P6.2: the chapter's example, and each number of bits, also those that count as 0 or as 32.
func TestMask(t *testing.T) {
	for _, c := range []struct {
		bits int
		want string
	}{
		{20, "255.255.240.0"}, {0, "0.0.0.0"}, {1, "128.0.0.0"}, {8, "255.0.0.0"}, {24, "255.255.255.0"},
		{31, "255.255.255.254"}, {32, "255.255.255.255"},
		{-1, "0.0.0.0"}, {-32, "0.0.0.0"}, {-33, "0.0.0.0"}, {math.MinInt, "0.0.0.0"},
		{33, "255.255.255.255"}, {64, "255.255.255.255"}, {1 << 32, "255.255.255.255"}, {math.MaxInt, "255.255.255.255"},
	} {
		if m := Mask(c.bits); library(m) != c.want {
			t.Errorf("Mask(%d): %s, want %s", c.bits, library(m), c.want)
		}
	}
	for bits := range 33 {
		want, _ := strconv.ParseUint(strings.Repeat("1", bits)+strings.Repeat("0", 32-bits), 2, 32)
		if m := Mask(bits); uint64(m) != want {
			t.Errorf("Mask(%d): %b, want %b", bits, m, want)
		}
	}
}

// P6.2: the chapter's example, and others by name.
func TestIn(t *testing.T) {
	for _, c := range []struct {
		ip, net string
		bits    int
		want    bool
	}{
		{"10.1.2.3", "10.1.0.0", 16, true},
		{"10.1.2.3", "10.1.0.0", 24, false},
		{"10.1.2.3", "10.1.255.255", 16, true}, // bits behind the prefix do not count
		{"10.2.2.3", "10.1.0.0", 16, false},
		{"1.2.3.4", "200.9.8.7", 0, true},
		{"1.2.3.4", "200.9.8.7", -1, true},
		{"1.2.3.4", "200.9.8.7", math.MinInt, true},
		{"1.2.3.4", "200.9.8.7", 1, false},
		{"1.2.3.4", "100.9.8.7", 1, true},
		{"1.2.3.4", "1.2.3.5", 31, true},
		{"1.2.3.4", "1.2.3.6", 31, false},
		{"1.2.3.4", "1.2.3.5", 32, false},
		{"1.2.3.4", "1.2.3.5", 33, false},
		{"1.2.3.4", "1.2.3.5", math.MaxInt, false},
		{"1.2.3.4", "1.2.3.4", 32, true},
		{"1.2.3.4", "1.2.3.4", 33, true},
		{"1.2.3.4", "1.2.3.4", math.MaxInt, true},
	} {
		if in := In(parsed(t, c.ip), parsed(t, c.net), c.bits); in != c.want {
			t.Errorf("In(%s, %s, %d): %v", c.ip, c.net, c.bits, in)
		}
	}
}

// P6.2: addresses that differ first at some bit are in each other's prefixes of as many bits as are alike, and of no more.
func TestInByTheFirstBitThatDiffers(t *testing.T) {
	d := drawer(7)
	for place := range 32 {
		for range 20 {
			x := uint32(d.next())
			rest := uint32(d.next()) & (1<<(31-place) - 1)
			y := x ^ (1<<(31-place) | rest)
			for bits := -2; bits <= 34; bits++ {
				if in := In(x, y, bits); in != (bits <= place) {
					t.Fatalf("In(%s, %s, %d): %v", library(x), library(y), bits, in)
				}
			}
		}
	}
}

// P6.3: once and twice.
func TestTurn(t *testing.T) {
	p := pair(1, 2, 3, 4)
	if q := Turn(p); q != pair(3, 4, 1, 2) {
		t.Errorf("Turn: %v", q)
	}
	if p != pair(1, 2, 3, 4) {
		t.Errorf("Turn changed its argument: %v", p)
	}
	if q := Turn(Turn(p)); q != p {
		t.Errorf("Turn twice: %v", q)
	}
	if q := Turn(pair(last, 65535, 0, 0)); q != pair(0, 0, last, 65535) {
		t.Errorf("Turn: %v", q)
	}
	if q := Turn(api.Pair{}); q != (api.Pair{}) {
		t.Errorf("Turn of nothing: %v", q)
	}
}

// P6.3: the order of the fields, and the highest byte of each first.
func TestBytes(t *testing.T) {
	for _, c := range []struct {
		p    api.Pair
		want string
	}{
		{pair(0x01020304, 0x090a, 0x05060708, 0x0b0c), "\x01\x02\x03\x04\x05\x06\x07\x08\x09\x0a\x0b\x0c"},
		{api.Pair{}, strings.Repeat("\x00", 12)},
		{pair(last, 65535, last, 65535), strings.Repeat("\xff", 12)},
		{pair(1, 0, 0, 0), "\x00\x00\x00\x01" + strings.Repeat("\x00", 8)},
		{pair(0, 0, 1, 0), strings.Repeat("\x00", 7) + "\x01" + strings.Repeat("\x00", 4)},
		{pair(0, 1, 0, 0), strings.Repeat("\x00", 9) + "\x01\x00\x00"},
		{pair(0, 0, 0, 1), strings.Repeat("\x00", 11) + "\x01"},
	} {
		if s := Bytes(c.p); s != c.want {
			t.Errorf("Bytes(%v): %q, want %q", c.p, s, c.want)
		}
	}
}

// fields are pairs that differ from p in one field alone, by one bit: each field's highest byte, its lowest one, its highest and its lowest bit.
func fields(p api.Pair) []api.Pair {
	var out []api.Pair
	for _, bit := range []int{0, 7, 8, 15, 16, 24, 31} {
		a, b := p, p
		a.From.IP ^= 1 << bit
		b.To.IP ^= 1 << bit
		out = append(out, a, b)
		if bit < 16 {
			c, d := p, p
			c.From.Port ^= 1 << bit
			d.To.Port ^= 1 << bit
			out = append(out, c, d)
		}
	}
	return out
}

// order tells which of two pairs comes first, field by field.
func order(a, b api.Pair) int {
	x := []uint32{a.From.IP, a.To.IP, uint32(a.From.Port), uint32(a.To.Port)}
	y := []uint32{b.From.IP, b.To.IP, uint32(b.From.Port), uint32(b.To.Port)}
	return slices.Compare(x, y)
}

// P6.3: pairs that are alike, and that differ in one field alone.
func TestCompare(t *testing.T) {
	d := drawer(8)
	for _, p := range []api.Pair{{}, pair(last, 65535, last, 65535), pair(0x01020304, 0x090a, 0x05060708, 0x0b0c), d.pair(), d.pair()} {
		if c := Compare(p, p); c != 0 {
			t.Errorf("Compare(%v, itself): %d", p, c)
		}
		for _, q := range fields(p) {
			want := order(p, q)
			if c, back := Compare(p, q), Compare(q, p); c != want || back != -want || c == 0 {
				t.Errorf("Compare(%v, %v): %d, and back %d, want %d", p, q, c, back, want)
			}
		}
	}
}

// P6.3: which field counts ahead of which, and which byte; bytes are no signed numbers.
func TestCompareByWhatCountsFirst(t *testing.T) {
	row := []api.Pair{
		pair(0, 0, 0, 0),
		pair(0, 0, 0, 1), pair(0, 0, 0, 255), pair(0, 0, 0, 256), pair(0, 0, 0, 0x7fff), pair(0, 0, 0, 0x8000), pair(0, 0, 0, 65535),
		pair(0, 1, 0, 0), pair(0, 1, 0, 65535), pair(0, 255, 0, 0), pair(0, 256, 0, 0), pair(0, 0x8000, 0, 0), pair(0, 65535, 0, 65535),
		pair(0, 0, 1, 0), pair(0, 65535, 1, 0), pair(0, 0, 255, 0), pair(0, 0, 256, 0), pair(0, 0, 1<<31, 0), pair(0, 65535, last, 65535),
		pair(1, 0, 0, 0), pair(1, 65535, last, 65535), pair(255, 0, 0, 0), pair(256, 0, 0, 0), pair(1<<31-1, 0, 0, 0), pair(1<<31, 0, 0, 0),
		pair(last, 0, 0, 0), pair(last, 65535, last, 65535),
	}
	for i, a := range row {
		for j, b := range row {
			want := 0
			if i < j {
				want = -1
			} else if i > j {
				want = 1
			}
			if c := Compare(a, b); c != want {
				t.Errorf("Compare(%v, %v): %d, want %d", a, b, c, want)
			}
		}
	}
}

// P6.4: texts are read as they were written, and unlike addresses have unlike texts.
func TestTextsAreRead(t *testing.T) {
	written := map[string]uint32{}
	for _, x := range some() {
		s := Text(x)
		if y, e := Parse(s); y != x || e != api.OK {
			t.Errorf("Parse(Text(%d)): %d, %v", x, y, e)
		}
		if y, is := written[s]; is && y != x {
			t.Errorf("%d and %d are both %q", x, y, s)
		}
		written[s] = x
	}
}

// P6.4: what is read is written again as it was, so that no two texts are one address.
func TestTextsAreWrittenAgain(t *testing.T) {
	d := drawer(9)
	letters := "0123456789."
	for range 200_000 {
		b := make([]byte, 7+d.next()%5)
		for i := range b {
			b[i] = letters[(d.next()>>8)%11]
			if i%2 == 1 && d.next()>>8%2 == 0 {
				b[i] = '.'
			}
		}
		s := string(b)
		if x, e := Parse(s); e == api.OK && Text(x) != s {
			t.Fatalf("Parse(%q) is %q", s, Text(x))
		}
	}
}

// P6.4: a prefix of fewer bits has all that one of more has of the same address; a mask of fewer has fewer ones.
func TestPrefixesHoldEachOther(t *testing.T) {
	d := drawer(10)
	for range 200 {
		x, alike := uint32(d.next()), d.next()%33
		y := x ^ uint32(uint64(uint32(d.next()))>>alike)
		for more := -1; more <= 33; more++ {
			for fewer := -1; fewer <= more; fewer++ {
				if In(x, y, more) && !In(x, y, fewer) {
					t.Fatalf("%s is in %s/%d and not in /%d", library(x), library(y), more, fewer)
				}
				if Mask(fewer)&^Mask(more) != 0 {
					t.Fatalf("Mask(%d) is not in Mask(%d)", fewer, more)
				}
			}
			if !In(x, x, more) {
				t.Fatalf("%s is not in its own prefix of %d bits", library(x), more)
			}
		}
	}
}

// P6.4: pairs turned twice are as they were, and unlike pairs have unlike bytes.
func TestPairsAreToldApart(t *testing.T) {
	d := drawer(11)
	for range 300 {
		p := d.pair()
		if q := Turn(Turn(p)); q != p {
			t.Errorf("%v turned twice: %v", p, q)
		}
		if p.From != p.To && Bytes(Turn(p)) == Bytes(p) {
			t.Errorf("%v turned has the same bytes", p)
		}
		seen := map[string]api.Pair{Bytes(p): p}
		for _, q := range fields(p) {
			if o, is := seen[Bytes(q)]; is {
				t.Errorf("%v and %v are both %q", o, q, Bytes(q))
			}
			seen[Bytes(q)] = q
			if len(Bytes(q)) != 12 {
				t.Errorf("Bytes(%v) has %d bytes", q, len(Bytes(q)))
			}
		}
	}
}

// R5: each text is memory of its own.
func TestAnswersAreNewMemory(t *testing.T) {
	if unsafe.StringData(Text(1)) == unsafe.StringData(Text(1)) {
		t.Error("two texts are one memory")
	}
	if unsafe.StringData(Bytes(api.Pair{})) == unsafe.StringData(Bytes(api.Pair{})) {
		t.Error("two pairs' bytes are one memory")
	}
}
