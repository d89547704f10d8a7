package ether

import (
	"fmt"
	"net"
	"strings"
	"testing"
	"unsafe"

	"stevedore/api"
)

// group is the bit by which an address is a group's.
const group api.Mac = 1 << 40

// drawer makes numbers that look like chance and are the same each time.
type drawer uint64

func (d *drawer) next() uint64 {
	*d = *d*6364136223846793005 + 1442695040888963407
	return uint64(*d >> 24)
}

func (d *drawer) mac() api.Mac { return api.Mac(d.next()<<24^d.next()) & api.Broadcast }

func (d *drawer) text(n int) string {
	b := make([]byte, n)
	for i := range b {
		b[i] = byte(d.next())
	}
	return string(b)
}

// frame is one that may be.
func (d *drawer) frame(n int) api.Frame {
	return api.Frame{To: d.mac(), From: d.mac() &^ group, Type: uint16(d.next()), Data: d.text(n)}
}

// noughts are so many bytes 0.
func noughts(n int) string { return strings.Repeat("\x00", n) }

// library is an address's text as the library writes it.
func library(m api.Mac) string {
	b := make([]byte, 6)
	for i := range b {
		b[i] = byte(m >> (40 - 8*i))
	}
	return net.HardwareAddr(b).String()
}

// some are addresses at all edges of bytes and digits, and drawn ones.
func some() []api.Mac {
	out := []api.Mac{0, 1, api.Broadcast, api.Broadcast - 1, 0x0123456789ab, 0xcdef01234567, group, api.Broadcast &^ group}
	for _, b := range []api.Mac{1, 9, 10, 15, 16, 0x9f, 0xa0, 0xaf, 0xf0, 0xfe, 0xff} {
		for place := range 6 {
			out = append(out, b<<(8*place), api.Broadcast&^(b<<(8*place)))
		}
	}
	d := drawer(7)
	for range 300 {
		out = append(out, d.mac())
	}
	return out
}

// P7.1: the chapter's example.
func TestEncodeExample(t *testing.T) {
	s, e := Encode(api.Frame{To: 1, From: 2, Type: api.TypeARP, Data: "ab"})
	want := "\x00\x00\x00\x00\x00\x01" + "\x00\x00\x00\x00\x00\x02" + "\x08\x06" + "ab" + noughts(44)
	if s != want || e != api.OK || len(s) != 60 {
		t.Errorf("%q, %v", s, e)
	}
}

// P7.1: the order of the fields, and the highest byte of each first.
func TestEncodeFields(t *testing.T) {
	data := strings.Repeat("xyz", 20)
	for _, c := range []struct {
		f    api.Frame
		head string
	}{
		{api.Frame{To: 0x010203040506, From: 0x080910111213, Type: 0x1415}, "\x01\x02\x03\x04\x05\x06\x08\x09\x10\x11\x12\x13\x14\x15"},
		{api.Frame{}, noughts(14)},
		{api.Frame{To: 1}, noughts(5) + "\x01" + noughts(8)},
		{api.Frame{From: 1}, noughts(11) + "\x01" + noughts(2)},
		{api.Frame{Type: 1}, noughts(13) + "\x01"},
		{api.Frame{Type: 65535}, noughts(12) + "\xff\xff"},
		{api.Frame{To: api.Broadcast}, "\xff\xff\xff\xff\xff\xff" + noughts(8)},
	} {
		c.f.Data = data
		if s, e := Encode(c.f); s != c.head+data || e != api.OK {
			t.Errorf("Encode(%#v): %q, %v", c.f, s, e)
		}
	}
}

// P7.1: which addresses may be, at either place.
func TestEncodeAddresses(t *testing.T) {
	for _, c := range []struct {
		to, from api.Mac
		want     api.Errno
	}{
		{0, 0, api.OK},
		{1<<48 - 1, 0, api.OK}, {1 << 48, 0, api.ErrArg}, {1<<48 + 1, 0, api.ErrArg}, {1 << 63, 0, api.ErrArg}, {1<<64 - 1, 0, api.ErrArg},
		{0, 1<<48 - 1, api.ErrArg}, {0, 1 << 48, api.ErrArg}, {0, 1<<48 + 1, api.ErrArg}, {0, 1 << 63, api.ErrArg}, {0, 1<<64 - 1, api.ErrArg},
		{0, 1<<48 - 1 - group, api.OK}, {0, 1<<64 - 1 - group, api.ErrArg},
		{group, 0, api.OK}, {0, group, api.ErrArg}, {group, group, api.ErrArg},
		{0, group + 2, api.ErrArg}, {0, group | 0xfe<<40, api.ErrArg}, {0, 0xfe << 40, api.OK},
		{1 << 48, 1 << 48, api.ErrArg}, {1 << 48, group, api.ErrArg},
	} {
		s, e := Encode(api.Frame{To: c.to, From: c.from, Type: 3, Data: "abc"})
		if e != c.want || (e == api.OK) != (len(s) == 60) || (e != api.OK) != (s == "") {
			t.Errorf("Encode of To %x and From %x: %q, %v, want %v", c.to, c.from, s, e, c.want)
		}
	}
}

// P7.1: each bit of From alone: one of them makes it a group's, those above 48 are too many. To may be a group's.
func TestEncodeBits(t *testing.T) {
	for bit := range 64 {
		m := api.Mac(1) << bit
		want := api.OK
		if bit >= 48 || bit == 40 {
			want = api.ErrArg
		}
		if _, e := Encode(api.Frame{From: m}); e != want {
			t.Errorf("From 2^%d: %v, want %v", bit, e, want)
		}
		want = api.OK
		if bit >= 48 {
			want = api.ErrArg
		}
		if _, e := Encode(api.Frame{To: m}); e != want {
			t.Errorf("To 2^%d: %v, want %v", bit, e, want)
		}
	}
}

// P7.1: how many bytes come of how many.
func TestEncodeSizes(t *testing.T) {
	least, most := api.MinFrame-14, api.MaxFrame-14
	for _, n := range []int{0, 1, 2, least - 2, least - 1, least, least + 1, least + 2, 1500, most - 1, most} {
		data := strings.Repeat("d", n)
		s, e := Encode(api.Frame{To: 5, From: 6, Type: 7, Data: data})
		want := noughts(5) + "\x05" + noughts(5) + "\x06\x00\x07" + data + noughts(max(least-n, 0))
		if s != want || e != api.OK {
			t.Errorf("Encode of %d bytes: %d bytes, %v", n, len(s), e)
		}
	}
	for _, n := range []int{most + 1, most + 2, 2 * most} {
		if s, e := Encode(api.Frame{To: 5, From: 6, Type: 7, Data: strings.Repeat("d", n)}); s != "" || e != api.ErrLong {
			t.Errorf("Encode of %d bytes: %d bytes, %v", n, len(s), e)
		}
	}
}

// P7.1, R2: of several errors the one that is named first.
func TestEncodeErrorsAtOnce(t *testing.T) {
	long := noughts(api.MaxFrame - 13)
	for _, f := range []api.Frame{
		{To: 1 << 48, Data: long}, {From: 1 << 48, Data: long}, {From: group, Data: long},
		{To: 1<<64 - 1, From: 1<<64 - 1, Data: long}, {To: 1 << 48, From: group, Data: long},
	} {
		if s, e := Encode(f); s != "" || e != api.ErrArg {
			t.Errorf("To %x, From %x, and too long: %q, %v", f.To, f.From, s, e)
		}
	}
}

// P7.1: what is read of which bytes, by name.
func TestDecode(t *testing.T) {
	data := "data" + noughts(42)
	s := "\x01\x02\x03\x04\x05\x06\x08\x09\x10\x11\x12\x13\x14\x15" + data
	if f, e := Decode(s); f != (api.Frame{To: 0x010203040506, From: 0x080910111213, Type: 0x1415, Data: data}) || e != api.OK {
		t.Errorf("%#v, %v", f, e)
	}
	if f, e := Decode(noughts(60)); f != (api.Frame{Data: noughts(46)}) || e != api.OK {
		t.Errorf("of bytes 0: %#v, %v", f, e)
	}
}

// P7.1: of how many bytes there may be a frame; the chapter's example is the one of 59.
func TestDecodeSizes(t *testing.T) {
	for _, c := range []struct {
		n    int
		want api.Errno
	}{
		{0, api.ErrShort}, {1, api.ErrShort}, {13, api.ErrShort}, {14, api.ErrShort}, {api.MinFrame - 1, api.ErrShort},
		{api.MinFrame, api.OK}, {api.MinFrame + 1, api.OK}, {1514, api.OK}, {api.MaxFrame - 1, api.OK}, {api.MaxFrame, api.OK},
		{api.MaxFrame + 1, api.ErrLong}, {api.MaxFrame + 2, api.ErrLong}, {2 * api.MaxFrame, api.ErrLong},
	} {
		d := drawer(c.n)
		s := "\xff\x02\x03\x04\x05\x06\xfe\x09\x10\x11\x12\x13\x14\x15" + d.text(max(c.n-14, 0))
		s = s[:c.n]
		want := api.Frame{}
		if c.want == api.OK {
			want = api.Frame{To: 0xff0203040506, From: 0xfe0910111213, Type: 0x1415, Data: s[14:]}
		}
		if f, e := Decode(s); f != want || e != c.want {
			t.Errorf("Decode of %d bytes: %d bytes of data, %v, want %v", c.n, len(f.Data), e, c.want)
		}
	}
}

// P7.1: a group may be told, but not tell; of each first byte the lowest bit alone counts.
func TestDecodeGroups(t *testing.T) {
	for b := range 256 {
		first := string([]byte{byte(b)})
		if f, e := Decode(first + noughts(59)); f.To != api.Mac(b)<<40 || e != api.OK {
			t.Errorf("To's first byte %d: %#v, %v", b, f, e)
		}
		f, e := Decode(noughts(6) + first + noughts(53))
		if b%2 == 1 && (f != api.Frame{} || e != api.ErrForm) || b%2 == 0 && (f.From != api.Mac(b)<<40 || e != api.OK) {
			t.Errorf("From's first byte %d: %#v, %v", b, f, e)
		}
	}
	for place := 7; place < 60; place++ {
		s := noughts(place) + "\xff" + noughts(59-place)
		if f, e := Decode(s); f == (api.Frame{}) || e != api.OK {
			t.Errorf("byte %d is 255: %#v, %v", place, f, e)
		}
	}
}

// P7.1, R2: a From that is a group's, in bytes that are too few or too many.
func TestDecodeErrorsAtOnce(t *testing.T) {
	for _, c := range []struct {
		n    int
		want api.Errno
	}{{7, api.ErrShort}, {59, api.ErrShort}, {60, api.ErrForm}, {api.MaxFrame, api.ErrForm}, {api.MaxFrame + 1, api.ErrLong}} {
		if f, e := Decode(strings.Repeat("\xff", c.n)); f != (api.Frame{}) || e != c.want {
			t.Errorf("Decode of %d bytes: %v, want %v", c.n, e, c.want)
		}
	}
}

// P7.2: the chapter's example, and the edges.
func TestText(t *testing.T) {
	for _, c := range []struct {
		m    api.Mac
		want string
	}{
		{0, "00:00:00:00:00:00"},
		{1, "00:00:00:00:00:01"},
		{1<<48 - 1, "ff:ff:ff:ff:ff:ff"},
		{1 << 48, "00:00:00:00:00:00"},
		{1<<48 + 1, "00:00:00:00:00:01"},
		{1<<64 - 1, "ff:ff:ff:ff:ff:ff"},
		{0xdead_0123456789ab, "01:23:45:67:89:ab"},
		{0xcdef01234567, "cd:ef:01:23:45:67"},
		{0x0a, "00:00:00:00:00:0a"},
		{0xa0, "00:00:00:00:00:a0"},
		{0x10 << 40, "10:00:00:00:00:00"},
	} {
		if s := Text(c.m); s != c.want {
			t.Errorf("Text(%x): %q, want %q", c.m, s, c.want)
		}
	}
}

// P7.2: held against the library's, with what bits there are above 48 as well.
func TestTextAsTheLibrary(t *testing.T) {
	for i, m := range some() {
		for _, x := range []api.Mac{m, m | api.Mac(i)<<48} {
			if s := Text(x); s != library(m) {
				t.Errorf("Text(%x): %q, want %q", x, s, library(m))
			}
		}
	}
}

// P7.2: texts of addresses; the chapter's example is the second one.
func TestParse(t *testing.T) {
	for _, c := range []struct {
		s    string
		want api.Mac
	}{
		{"00:00:00:00:00:00", 0},
		{"00:00:00:00:00:01", 1},
		{"01:00:00:00:00:00", group},
		{"ff:ff:ff:ff:ff:ff", 1<<48 - 1},
		{"01:23:45:67:89:ab", 0x0123456789ab},
		{"cd:ef:01:23:45:67", 0xcdef01234567},
	} {
		if m, e := Parse(c.s); m != c.want || e != api.OK {
			t.Errorf("Parse(%q): %x, %v, want %x", c.s, m, e, c.want)
		}
	}
}

// P7.2: what is no address's text.
func TestParseRefuses(t *testing.T) {
	for _, s := range []string{
		"", "0", "00", ":", ":::::", "::::::", "00:00", "1",
		"01:02:03:04:05", "01:02:03:04:05:06:07", "01:02:03:04:05:06:07:08", // too few, too many
		"01:02:03:04:05:", ":01:02:03:04:05", "01:02::04:05:06", "01:02:03:04:05:06:", ":01:02:03:04:05:06", "::01:02:03:04:05", // a colon ahead, behind, twice
		"010203040506", "01:02:0304:05:06", "01:02:0304:05:06:", "01:02:0304:05:067", "0102:03:04:05:06", "01:02:03:04:0506", // left out
		"1:02:03:04:05:06", "01:2:03:04:05:06", "01:02:03:04:05:6", "1:2:3:4:5:6", "1:02:03:04:05:006", // a digit left out
		"001:02:03:04:05:06", "01:002:03:04:05:06", "01:02:03:04:05:006", "010:2:03:04:05:06", // too many
		"01-02-03-04-05-06", "0102.0304.0506", "01.02.03.04.05.06", "01 02 03 04 05 06", "01:02:03-04:05:06", "01;02:03:04:05:06", // another sign
		"01:02:03:04:05:06 ", " 01:02:03:04:05:06", "01:02:03:04:05:06\n", "01:02:03:04:05:06\x00", "\x0001:02:03:04:05:06",
		"FF:FF:FF:FF:FF:FF", "Ff:ff:ff:ff:ff:ff", "00:00:00:00:00:0A", "00:00:00:00:00:A0", "0X:00:00:00:00:00", "0x:00:00:00:00:00",
		strings.Repeat("00:", 1000), strings.Repeat("0", 17), strings.Repeat(":", 17), noughts(17), strings.Repeat("\xff", 17),
	} {
		if m, e := Parse(s); m != 0 || e != api.ErrForm {
			t.Errorf("Parse(%q): %x, %v", s, m, e)
		}
	}
}

// P7.2: two letters that are no byte's, at each of the six places.
func TestParseRefusesBytes(t *testing.T) {
	for _, b := range []string{"", "0", "f", "000", "0ff", "0A", "A0", "FF", "fF", "Ff", "+1", "-1", "-0", "1+", " 1", "1 ", "  ", "\t1", "0g", "g0", "0z", "0x", "x0", "1_", "_1", "0/", "0:", ":0", "0@", "0`", "0G", "\x001", "1\x00", "²", "\xb21", "١"} {
		for place := range 6 {
			bytes := []string{"01", "23", "45", "67", "89", "ab"}
			bytes[place] = b
			s := strings.Join(bytes, ":")
			if m, e := Parse(s); m != 0 || e != api.ErrForm {
				t.Errorf("Parse(%q): %x, %v", s, m, e)
			}
		}
	}
}

// P7.2: all bytes, at each of the six places.
func TestParseBytes(t *testing.T) {
	for b := range 256 {
		for place := range 6 {
			bytes := []string{"00", "00", "00", "00", "00", "00"}
			bytes[place] = fmt.Sprintf("%02x", b)
			want := api.Mac(b) << (40 - 8*place)
			if m, e := Parse(strings.Join(bytes, ":")); m != want || e != api.OK {
				t.Errorf("Parse(%q): %x, %v, want %x", bytes, m, e, want)
			}
		}
	}
}

// P7.2: texts with one byte changed, put in or taken out are addresses' if the library reads them and writes them so again.
func TestParseAsTheLibrary(t *testing.T) {
	try := func(s string) {
		want, e := api.Mac(0), api.ErrForm
		if h, err := net.ParseMAC(s); err == nil && len(h) == 6 && h.String() == s {
			for _, b := range h {
				want = want<<8 | api.Mac(b)
			}
			e = api.OK
		}
		if m, f := Parse(s); m != want || f != e {
			t.Errorf("Parse(%q): %x, %v, want %x, %v", s, m, f, want, e)
		}
	}
	for _, s := range []string{"00:00:00:00:00:01", "ff:ff:ff:ff:ff:ff", "01:23:45:67:89:ab", "fe:dc:ba:98:76:54"} {
		for at := range len(s) + 1 {
			for b := range 256 {
				c := string([]byte{byte(b)})
				try(s[:at] + c + s[at:])
				if at < len(s) {
					try(s[:at] + c + s[at+1:])
				}
			}
			if at < len(s) {
				try(s[:at] + s[at+1:])
			}
		}
	}
}

// P7.2: whose a frame is.
func TestFor(t *testing.T) {
	const own api.Mac = 0x020304050607
	for _, c := range []struct {
		to, own api.Mac
		want    bool
	}{
		{own, own, true},
		{api.Broadcast, own, true},
		{own + 1, own, false},
		{own - 1, own, false},
		{own ^ 1<<47, own, false},
		{0, own, false},
		{0, 0, true},
		{group, own, false},             // another group's
		{own | group, own, false},       // ..
		{api.Broadcast - 1, own, false}, // ..
		{0x01005e000001, own, false},    // ..
		{group, group, true},            // own, whatever that is
		{api.Broadcast, 0, true},        // for all
		{own, api.Broadcast, false},     // from all's side it is another one's
		{api.Broadcast, api.Broadcast, true},
		{1 << 48, 0, false}, // bits above 48 are no less an address's than others
		{1<<64 - 1, own, false},
		{own | 1<<48, own, false},
		{own, own | 1<<48, false},
	} {
		f := api.Frame{To: c.to, From: c.own, Type: api.TypeIP4, Data: "x"}
		if is := For(f, c.own); is != c.want {
			t.Errorf("For(To %x, own %x): %v", c.to, c.own, is)
		}
	}
	if For(api.Frame{To: 1, From: own}, own) {
		t.Error("a frame is for whom it is from")
	}
}

// P7.3: what was written is read, with bytes 0 behind, if it was short.
func TestWrittenIsRead(t *testing.T) {
	d := drawer(8)
	try := func(f api.Frame) {
		s, e := Encode(f)
		if e != api.OK || len(s) < api.MinFrame || len(s) > api.MaxFrame {
			t.Fatalf("Encode of %d bytes of data: %d bytes, %v", len(f.Data), len(s), e)
		}
		f.Data += noughts(max(46-len(f.Data), 0))
		if g, e := Decode(s); g != f || e != api.OK {
			t.Fatalf("To %x, From %x, Type %d and %d bytes were written, To %x, From %x, Type %d and %d bytes are read, %v", f.To, f.From, f.Type, len(f.Data), g.To, g.From, g.Type, len(g.Data), e)
		}
	}
	for n := range 120 {
		for range 5 {
			try(d.frame(n))
		}
	}
	for _, n := range []int{1500, api.MaxFrame - 15, api.MaxFrame - 14} {
		try(d.frame(n))
	}
	for _, m := range some() {
		try(api.Frame{To: m, From: m &^ group, Type: uint16(m), Data: "\x00a\x00"})
	}
}

// P7.3: what is read is written as it was.
func TestReadIsWritten(t *testing.T) {
	d := drawer(9)
	reads := 0
	for n := 50; n < 150; n++ {
		for range 20 {
			s := d.text(n)
			f, e := Decode(s)
			if e != api.OK {
				continue
			}
			reads++
			if u, e := Encode(f); u != s || e != api.OK {
				t.Fatalf("%q was read, %q is written, %v", s, u, e)
			}
		}
	}
	if reads < 500 {
		t.Errorf("only %d were read", reads)
	}
	for _, n := range []int{api.MinFrame, api.MaxFrame - 1, api.MaxFrame} {
		s := "\xff\xff\xff\xff\xff\xff\x00" + d.text(n-7)
		f, e := Decode(s)
		if u, g := Encode(f); u != s || e != api.OK || g != api.OK {
			t.Errorf("%d bytes: %v, %v", n, e, g)
		}
	}
}

// P7.3: texts of addresses, likewise.
func TestTextsAreRead(t *testing.T) {
	for _, m := range some() {
		if x, e := Parse(Text(m)); x != m || e != api.OK {
			t.Errorf("Parse(Text(%x)): %x, %v", m, x, e)
		}
	}
	d := drawer(10)
	letters := "0123456789abcdefABCDEF:"
	for range 100_000 {
		b := []byte("01:23:45:67:89:ab")
		for range 1 + d.next()>>8%3 {
			b[d.next()>>8%17] = letters[d.next()>>8%23]
		}
		s := string(b)
		if m, e := Parse(s); e == api.OK && Text(m) != s {
			t.Fatalf("Parse(%q) is %q", s, Text(m))
		}
	}
}

// R5: answers are memory of their own, and share none with what was handed in.
func TestAnswersAreNewMemory(t *testing.T) {
	data := strings.Repeat("d", 60)
	s, _ := Encode(api.Frame{Data: data})
	u, _ := Encode(api.Frame{Data: data})
	if unsafe.StringData(s) == unsafe.StringData(u) {
		t.Error("two frames' bytes are one memory")
	}
	f, _ := Decode(s)
	g, _ := Decode(s)
	if unsafe.StringData(f.Data) == unsafe.StringData(g.Data) || unsafe.StringData(f.Data) == unsafe.StringData(s[14:]) {
		t.Error("a frame's data is memory of what it was read from")
	}
	if unsafe.StringData(Text(1)) == unsafe.StringData(Text(1)) {
		t.Error("two texts are one memory")
	}
}
