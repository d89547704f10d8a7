package icmp

import (
	"math"
	"slices"
	"strings"
	"testing"
	"unsafe"

	"stevedore/api"
	"stevedore/ip4"
)

// mostData is how many bytes of data a message has at most: a packet's bytes, less a head's, less a message's own 8.
const mostData = 65535 - 20 - 8

// plain is a message no two bytes of whose fields are alike, and plainBytes are its bytes.
var plain = api.Icmp{Type: 0x11, Code: 0x22, Word: 0x33445566, Data: "\x77\x88\x99"}

const plainBytes = "\x11\x22\x55\xaa\x33\x44\x55\x66\x77\x88\x99"

// knownAsk is one who asks for an echo, with the checksum that is written of it elsewhere: number 1, the first one, "abcdefghijklmnopqrstuvwabcdefghi".
const knownAsk = "\x08\x00\x4d\x5a\x00\x01\x00\x01abcdefghijklmnopqrstuvwabcdefghi"

// hosts are two addresses of one host each.
const (
	here  = 0x0a000001
	there = 0x0a000002
)

// kinds of errors, as the chapter lists them.
var kinds = []uint8{3, 11, 12}

// drawer makes numbers that look like chance and are the same each time.
type drawer uint64

func (d *drawer) next() uint64 {
	*d = *d*6364136223846793005 + 1442695040888963407
	return uint64(*d >> 24)
}

func (d *drawer) below(n int) int { return int(d.next() >> 8 % uint64(n)) }

func (d *drawer) text(n int) string {
	b := make([]byte, n)
	for i := range b {
		b[i] = byte(d.next())
	}
	return string(b)
}

// pick is one of a list.
func pick[T any](d *drawer, l ...T) T { return l[d.below(len(l))] }

// of are so many bytes that are unlike wherever they are taken from, as far as a test can see it.
func of(n int) string {
	b := make([]byte, n)
	for i := range b {
		b[i] = byte(i>>8 ^ i*7 ^ 'd')
	}
	return string(b)
}

// with is s with other bytes at a place.
func with(s string, at int, b ...byte) string { return s[:at] + string(b) + s[at+len(b):] }

// total is the sum of the words of s, of which one that lacks a byte has 0 there, with what is above a word added at the bottom.
func total(s string) int {
	x := 0
	for i := range len(s) {
		x += int(s[i]) << (8 * (1 - i%2))
	}
	if x == 0 {
		return 0
	}
	return (x-1)%math.MaxUint16 + 1
}

// right is s with the checksum at a place that its first n bytes call for.
func right(s string, at, n int) string {
	c := math.MaxUint16 - total(with(s, at, 0, 0)[:n])
	return with(s, at, byte(c>>8), byte(c))
}

// rightHead is s with the checksum that its head of n bytes calls for.
func rightHead(s string, n int) string { return right(s, 10, n) }

// isKind tells whether a type is that of an error.
func isKind(kind uint8) bool { return slices.Contains(kinds, kind) }

// packet is what ip4.Encode makes of what may be.
func packet(t *testing.T, h api.Head, data string) string {
	t.Helper()
	s, e := ip4.Encode(h, data)
	if e != api.OK {
		t.Fatalf("%#v with %d bytes: %v", h, len(data), e)
	}
	return s
}

// written is what Encode makes of what may be.
func written(t *testing.T, m api.Icmp) string {
	t.Helper()
	s, e := Encode(m)
	if e != api.OK {
		t.Fatalf("Encode(%.80q): %v", m.Data, e)
	}
	return s
}

// wantDecode holds what is read against what is wanted.
func wantDecode(t *testing.T, s string, want api.Icmp, wantE api.Errno) {
	t.Helper()
	if m, e := Decode(s); m != want || e != wantE {
		t.Errorf("Decode(%.40q, %d bytes): %.80q %v, want %v", s, len(s), m.Data, e, wantE)
	}
}

// wantError holds that an error goes, with that quote, and that the quote is read as that head and these bytes.
func wantError(t *testing.T, s, quote string) {
	t.Helper()
	for _, kind := range kinds {
		want := api.Icmp{Type: kind, Code: kind * 5, Word: 0x01020304, Data: quote}
		if m, is := Error(kind, kind*5, 0x01020304, s); m != want || !is {
			t.Errorf("Error(%d) of %.80q: %#v, %v, want %#v", kind, s, m, is, want)
		}
	}
}

// wantNoError holds that no error goes.
func wantNoError(t *testing.T, s string) {
	t.Helper()
	for _, kind := range kinds {
		if m, is := Error(kind, 1, 2, s); is || m != (api.Icmp{}) {
			t.Errorf("Error(%d) of %.80q: %#v, %v", kind, s, m, is)
		}
	}
}

// wantQuoted holds what is quoted by each kind of error.
func wantQuoted(t *testing.T, data string, h api.Head, first string) {
	t.Helper()
	for _, kind := range kinds {
		if g, f, is := Quoted(api.Icmp{Type: kind, Code: 7, Word: 9, Data: data}); g != h || f != first || !is {
			t.Errorf("Quoted(%d, %.80q): %#v, %.40q, %v, want %#v, %.40q", kind, data, g, f, is, h, first)
		}
	}
}

// wantNoneQuoted holds that no kind of error quotes anything.
func wantNoneQuoted(t *testing.T, data string) {
	t.Helper()
	for _, kind := range kinds {
		if h, f, is := Quoted(api.Icmp{Type: kind, Code: 7, Word: 9, Data: data}); h != (api.Head{}) || f != "" || is {
			t.Errorf("Quoted(%d, %.80q): %#v, %.40q, %v", kind, data, h, f, is)
		}
	}
}

// The chapter's examples.
func TestExamples(t *testing.T) {
	if m, is := Echo(api.Icmp{Type: api.EchoAsk, Word: 7, Data: "ab"}); m != (api.Icmp{Type: api.EchoReply, Word: 7, Data: "ab"}) || !is {
		t.Errorf("%#v, %v", m, is)
	}
	h := api.Head{Proto: api.ProtoUDP, From: here, To: there}
	m, is := Error(api.Unreachable, api.CodePort, 0, packet(t, h, of(20)))
	if len(m.Data) != 28 || !is {
		t.Errorf("%#v, %v", m, is)
	}
	if g, first, is := Quoted(m); g != h || first != of(20)[:8] || !is {
		t.Errorf("%#v, %q, %v", g, first, is)
	}
}

// P14.1: the bytes written out, field by field, each field at its least and its greatest, and as they are written elsewhere.
func TestBytes(t *testing.T) {
	for _, c := range []struct {
		m    api.Icmp
		want string
	}{
		{plain, plainBytes},
		{api.Icmp{}, "\x00\x00\xff\xff\x00\x00\x00\x00"},
		{api.Icmp{Type: 255}, "\xff\x00\x00\xff\x00\x00\x00\x00"},
		{api.Icmp{Code: 255}, "\x00\xff\xff\x00\x00\x00\x00\x00"},
		{api.Icmp{Type: 255, Code: 255}, "\xff\xff\x00\x00\x00\x00\x00\x00"},
		{api.Icmp{Word: 1<<32 - 1}, "\x00\x00\x00\x00\xff\xff\xff\xff"},
		{api.Icmp{Type: 255, Code: 255, Word: 1<<32 - 1, Data: "\xff\xff"}, "\xff\xff\x00\x00\xff\xff\xff\xff\xff\xff"},
		{api.Icmp{Word: 1}, "\x00\x00\xff\xfe\x00\x00\x00\x01"},
		{api.Icmp{Word: 1 << 31}, "\x00\x00\x7f\xff\x80\x00\x00\x00"},
		{api.Icmp{Data: "\x01"}, "\x00\x00\xfe\xff\x00\x00\x00\x00\x01"},
		{api.Icmp{Data: "\x00\x01"}, "\x00\x00\xff\xfe\x00\x00\x00\x00\x00\x01"},
		{api.Icmp{Data: "\x00"}, "\x00\x00\xff\xff\x00\x00\x00\x00\x00"},
		{api.Icmp{Type: 8, Word: 0x00010001, Data: knownAsk[8:]}, knownAsk},
	} {
		if s, e := Encode(c.m); s != c.want || e != api.OK {
			t.Errorf("Encode(%#v): %q, %v, want %q", c.m, s, e, c.want)
		}
		wantDecode(t, c.want, c.m, api.OK)
	}
}

// P14.1: how many bytes a message may have. One that is read may have more: Decode names no bound.
func TestLong(t *testing.T) {
	for n, want := range map[int]api.Errno{0: api.OK, 1: api.OK, mostData - 1: api.OK, mostData: api.OK, mostData + 1: api.ErrLong, mostData + 8: api.ErrLong, 65535: api.ErrLong, 1 << 20: api.ErrLong} {
		m := api.Icmp{Type: 3, Code: 4, Word: 5, Data: of(n)}
		s, e := Encode(m)
		if e != want || e != api.OK && s != "" || e == api.OK && len(s) != 8+n {
			t.Errorf("%d bytes of data: %d bytes, %v, want %v", n, len(s), e, want)
		}
		if e == api.OK {
			wantDecode(t, s, m, api.OK)
		}
		long := right("\x03\x04\x00\x00\x00\x00\x00\x05"+of(n), 2, 8+n)
		wantDecode(t, long, m, api.OK)
		if e == api.OK && s != long {
			t.Errorf("%d bytes of data are written otherwise", n)
		}
	}
}

// P14.1: fewer than 8 bytes are too short, whether they are right or not; just 8 are enough.
func TestShort(t *testing.T) {
	for n := range 8 {
		wantDecode(t, plainBytes[:n], api.Icmp{}, api.ErrShort)
		wantDecode(t, strings.Repeat("\xff", n), api.Icmp{}, api.ErrShort)
		if n >= 4 {
			wantDecode(t, right(plainBytes[:n], 2, n), api.Icmp{}, api.ErrShort)
		}
	}
	wantDecode(t, "12345678", api.Icmp{}, api.ErrSum)
	wantDecode(t, strings.Repeat("\x00", 8), api.Icmp{}, api.ErrSum)
	wantDecode(t, plainBytes[:8], api.Icmp{}, api.ErrSum)
	wantDecode(t, right(plainBytes[:8], 2, 8), api.Icmp{Type: 0x11, Code: 0x22, Word: 0x33445566}, api.OK)
	wantDecode(t, strings.Repeat("\xff", 8), api.Icmp{Type: 255, Code: 255, Word: 1<<32 - 1}, api.OK)
	wantDecode(t, plainBytes+"\x01", api.Icmp{}, api.ErrSum)
	wantDecode(t, plainBytes[:10], api.Icmp{}, api.ErrSum)
}

// P14.1, P14.5: each Type and each Code, also those that nobody named, is written and read.
func TestTypes(t *testing.T) {
	for kind := range 256 {
		for code := range 256 {
			m := api.Icmp{Type: uint8(kind), Code: uint8(code), Word: uint32(kind*code) << 12, Data: plain.Data[:kind%4]}
			s := written(t, m)
			if s != right(s, 2, len(s)) || s[0] != byte(kind) || s[1] != byte(code) {
				t.Errorf("%#v: %q", m, s)
			}
			wantDecode(t, s, m, api.OK)
		}
	}
}

// P14.5: what was written is read, and a byte that is another one is told, wherever it is.
func TestReadAndTold(t *testing.T) {
	d := drawer(1)
	for range 300 {
		m := api.Icmp{Type: uint8(d.next()), Code: uint8(d.next()), Word: uint32(d.next()), Data: d.text(d.below(70))}
		if d.below(4) == 0 {
			m.Data = strings.Repeat(pick(&d, "\x00", "\xff"), len(m.Data))
		}
		s := written(t, m)
		if s != right(s, 2, len(s)) {
			t.Errorf("%#v: %q has another checksum", m, s)
		}
		wantDecode(t, s, m, api.OK)
		at := d.below(len(s))
		wantDecode(t, with(s, at, s[at]^byte(1+d.below(255))), api.Icmp{}, api.ErrSum)
	}
	for _, s := range []string{plainBytes, knownAsk, written(t, api.Icmp{}), strings.Repeat("\xff", 10)} {
		for at := range len(s) {
			for x := range 256 {
				if byte(x) != s[at] {
					wantDecode(t, with(s, at, byte(x)), api.Icmp{}, api.ErrSum)
				}
			}
		}
	}
}

// P14.2: who asks for an echo, with Code 0, is answered; nobody else.
func TestEcho(t *testing.T) {
	for kind := range 256 {
		for code := range 256 {
			for _, data := range []string{"", "a", "ab\x00\xff"} {
				var want api.Icmp
				if kind == 8 && code == 0 {
					want = api.Icmp{Type: 0, Code: 0, Word: 0xfedcba98, Data: data}
				}
				m := api.Icmp{Type: uint8(kind), Code: uint8(code), Word: 0xfedcba98, Data: data}
				if r, is := Echo(m); r != want || is != (kind == 8 && code == 0) {
					t.Errorf("Echo(%#v): %#v, %v", m, r, is)
				}
			}
		}
	}
	for _, word := range []uint32{0, 1, 1 << 16, 1<<32 - 1} {
		for _, n := range []int{0, 1, mostData, mostData + 1} {
			want := api.Icmp{Word: word, Data: of(n)}
			if r, is := Echo(api.Icmp{Type: api.EchoAsk, Word: word, Data: of(n)}); r != want || !is {
				t.Errorf("Echo with Word %d and %d bytes: %v", word, n, is)
			}
		}
	}
}

// P14.5: an echo is answered once: an answer has none.
func TestEchoOfEcho(t *testing.T) {
	r, _ := Echo(api.Icmp{Type: api.EchoAsk, Word: 7, Data: "ab"})
	if again, is := Echo(r); is || again != (api.Icmp{}) {
		t.Errorf("%#v, %v", again, is)
	}
}

// P14.3: errors are of three kinds; their Code and Word are what was handed in.
func TestErrorKinds(t *testing.T) {
	s := packet(t, api.Head{Proto: api.ProtoUDP, From: here, To: there}, of(9))
	for kind := range 256 {
		for code := range 256 {
			for _, word := range []uint32{0, 1, 0x89abcdef, 1<<32 - 1} {
				var want api.Icmp
				if isKind(uint8(kind)) {
					want = api.Icmp{Type: uint8(kind), Code: uint8(code), Word: word, Data: s[:28]}
				}
				if m, is := Error(uint8(kind), uint8(code), word, s); m != want || is != isKind(uint8(kind)) {
					t.Errorf("Error(%d, %d, %d): %#v, %v", kind, code, word, m, is)
				}
			}
		}
	}
}

// P14.3: the quote is the head as it came, with its options, and 8 bytes of data, or all; what stands behind the packet is none of it.
func TestQuote(t *testing.T) {
	for _, opts := range []string{"", "\x07\x04xy", "\x83\x03\x04\x00", of(36), of(40)} {
		for _, n := range []int{0, 1, 7, 8, 9, 20, 1000, 65535 - 60} {
			for _, behind := range []string{"", "b", "behind the packet"} {
				h := api.Head{Tos: 0x11, ID: 0x2233, Hold: true, TTL: 0x77, Proto: 0x88, From: here, To: there, Opts: opts}
				s := packet(t, h, of(n))
				quote := s[:20+len(opts)+min(n, 8)]
				wantError(t, s+behind, quote)
				wantQuoted(t, quote, h, of(n)[:min(n, 8)])
			}
		}
	}
	// A checksum of 0xffff in place of 0 is right as well, and is quoted as it came.
	zero := rightHead(with(packet(t, api.Head{Proto: 17, From: here, To: there}, ""), 4, 0, 0), 20)
	c := int(zero[10])<<8 + int(zero[11])
	zero = with(zero, 4, byte(c>>8), byte(c), 0, 0, 0, 17, 0, 0)
	wantError(t, zero, zero)
	wantError(t, with(zero, 10, 0xff, 0xff), with(zero, 10, 0xff, 0xff))
}

// P14.3: nothing tells of what is no packet.
func TestErrorOfNoPacket(t *testing.T) {
	h := api.Head{Proto: api.ProtoUDP, From: here, To: there, Opts: "\x07\x04xy"}
	s := packet(t, h, of(12))
	wantError(t, s, s[:32])
	for n := range len(s) {
		wantNoError(t, s[:n])
	}
	for version := range 16 {
		if version != 4 {
			wantNoError(t, rightHead(with(s, 0, byte(version<<4|6)), 24))
		}
	}
	for at := range 24 {
		wantNoError(t, with(s, at, s[at]^0x10))
	}
	for quads := range 5 {
		wantNoError(t, rightHead(with(s, 0, byte(4<<4|quads)), max(12, 4*quads)))
	}
	wantNoError(t, rightHead(with(s, 2, 0, 37), 24))
	wantNoError(t, rightHead(with(s, 2, 0, 23), 24))
	wantNoError(t, rightHead(with(s, 6, 0x80, 0), 24))
	wantNoError(t, "")
	wantNoError(t, "x")
	wantNoError(t, of(100))
}

// P14.3: nothing tells of a part but the first one.
func TestErrorOfPart(t *testing.T) {
	for _, at := range []int{0, 8, 16, 1024, 256 * 8, 32 * 8, 65504} {
		for _, more := range []bool{false, true} {
			s := packet(t, api.Head{Proto: api.ProtoUDP, From: here, To: there, At: at, More: more}, of(8))
			if at == 0 {
				wantError(t, s, s)
			} else {
				wantNoError(t, s)
			}
		}
	}
}

// ends are addresses at the edges of each kind: whether one host's, and whether a packet to it goes to one at most.
var ends = []struct {
	ip        uint32
	one, sole bool
}{
	{0, false, true},
	{1, true, true},
	{0x00ffffff, true, true},
	{0x01000000, true, true},
	{here, true, true},
	{0x7effffff, true, true},
	{0x7f000000, false, true},
	{0x7f000001, false, true},
	{0x7fffffff, false, true},
	{0x80000000, true, true},
	{0xdfffffff, true, true},
	{0xe0000000, false, false},
	{0xe0000001, false, false},
	{0xefffffff, false, false},
	{0xf0000000, false, true},
	{0xfffffffe, false, true},
	{0xffffffff, false, false},
}

// P14.3: who can't have sent a packet alone is told nothing, and nobody is of what went to many.
func TestErrorOfAddresses(t *testing.T) {
	for _, from := range ends {
		for _, to := range ends {
			s := packet(t, api.Head{Proto: api.ProtoTCP, From: from.ip, To: to.ip}, of(9))
			if from.one && to.sole {
				wantError(t, s, s[:28])
			} else {
				wantNoError(t, s)
			}
		}
	}
}

// P14.3, P14.5: of ICMP, echoes alone are told of; what is of another protocol may begin with any byte.
func TestErrorOfIcmp(t *testing.T) {
	for kind := range 256 {
		first := string([]byte{byte(kind)})
		for _, data := range []string{first, first + "\x01", first + of(6), first + of(7), first + of(30), written(t, api.Icmp{Type: uint8(kind), Data: "ab"})} {
			s := packet(t, api.Head{Proto: api.ProtoICMP, From: here, To: there}, data)
			if kind == 0 || kind == 8 {
				wantError(t, s, s[:20+min(len(data), 8)])
			} else {
				wantNoError(t, s)
			}
			s = packet(t, api.Head{Proto: uint8(kind), From: here, To: there}, "\x03"+data)
			if kind == 1 {
				wantNoError(t, s)
			} else {
				wantError(t, s, s[:20+min(len(data)+1, 8)])
			}
		}
	}
	wantNoError(t, packet(t, api.Head{Proto: api.ProtoICMP, From: here, To: there}, ""))
	s := packet(t, api.Head{Proto: api.ProtoUDP, From: here, To: there}, "")
	wantError(t, s, s)
	// Options, and what stands behind a packet, are not its data.
	wantNoError(t, packet(t, api.Head{Proto: api.ProtoICMP, From: here, To: there, Opts: "\x08\x08\x08\x08"}, "\x03"))
	wantNoError(t, packet(t, api.Head{Proto: api.ProtoICMP, From: here, To: there, Opts: "\x08\x08\x08\x08"}, "")+"\x08")
	s = packet(t, api.Head{Proto: api.ProtoICMP, From: here, To: there, Opts: "\x03\x03\x03\x03"}, "\x08")
	wantError(t, s, s)
}

// P14.5: no error is answered by an error, whichever, and whatever it is about.
func TestErrorOfError(t *testing.T) {
	about := packet(t, api.Head{Proto: api.ProtoUDP, From: here, To: there}, of(20))
	for _, kind := range kinds {
		m, is := Error(kind, 1, 0, about)
		if !is {
			t.Fatal("no error goes")
		}
		wantNoError(t, packet(t, api.Head{Proto: api.ProtoICMP, From: there, To: here}, written(t, m)))
	}
}

// P14.4: each type of a message; all that stands behind the head, also more than is quoted.
func TestQuotedKinds(t *testing.T) {
	h := api.Head{Tos: 0x11, ID: 0x2233, Hold: true, More: true, TTL: 0x77, Proto: 0x88, From: 0x99aabbcc, To: 0xddeeff10, Opts: "\x21\x04\x43\x54"}
	s := packet(t, h, of(64))
	for kind := range 256 {
		g, first, is := Quoted(api.Icmp{Type: uint8(kind), Data: s})
		switch {
		case is != isKind(uint8(kind)):
			t.Errorf("type %d: %v", kind, is)
		case is && (g != h || first != of(64)), !is && (g != api.Head{} || first != ""):
			t.Errorf("type %d: %#v, %q", kind, g, first)
		}
	}
	for code := range 256 {
		if _, _, is := Quoted(api.Icmp{Type: 3, Code: uint8(code), Word: uint32(code) << 24, Data: s}); !is {
			t.Errorf("code %d: none", code)
		}
	}
}

// P14.4: Data that is cut: within the head it quotes nothing, just behind it no bytes.
func TestQuotedCut(t *testing.T) {
	for _, opts := range []string{"", "\x07\x04xy", of(40)} {
		h := api.Head{Proto: 17, From: here, To: there, Opts: opts}
		s := packet(t, h, of(20))
		for n := range len(s) + 1 {
			if n < 20+len(opts) {
				wantNoneQuoted(t, s[:n])
			} else {
				wantQuoted(t, s[:n], h, s[20+len(opts):n])
			}
		}
		wantQuoted(t, s+"behind", h, of(20)+"behind")
	}
	wantNoneQuoted(t, "")
	wantNoneQuoted(t, of(100))
}

// P14.4: heads of another version, that aren't right, that stand elsewhere, or may not be.
func TestQuotedWrong(t *testing.T) {
	h := api.Head{Tos: 3, ID: 4, TTL: 5, Proto: 17, From: here, To: there, Opts: "\x07\x04xy"}
	s := packet(t, h, of(8))
	for version := range 16 {
		if version != 4 {
			wantNoneQuoted(t, rightHead(with(s, 0, byte(version<<4|6)), 24))
		}
	}
	for at := range 24 {
		for x := range 256 {
			if byte(x) != s[at] {
				wantNoneQuoted(t, with(s, at, byte(x)))
			}
		}
	}
	for x := 1; x < 1<<13; x += 1 + x/9 {
		for _, bits := range []int{0, 1 << 13, 1 << 14, 3 << 13} {
			wantNoneQuoted(t, rightHead(with(s, 6, byte((x|bits)>>8), byte(x)), 24))
		}
	}
	// A head that is too short to be one is none, wherever the checksum of what it says that it has stands.
	for quads := range 5 {
		short := with(s, 0, byte(4<<4|quads))
		wantNoneQuoted(t, rightHead(short, max(12, 4*quads)))
		wantNoneQuoted(t, rightHead(short, 20))
		wantNoneQuoted(t, rightHead(short, 24))
	}
	// The words behind the head do not count for its checksum.
	wantNoneQuoted(t, rightHead(s, len(s)))
}

// P14.4: what the promise does not ask of a head: how long it says that the packet is, a first part with data that can't be told, and the bit that is nobody's.
func TestQuotedAnyway(t *testing.T) {
	h := api.Head{Tos: 3, ID: 4, TTL: 5, Proto: 17, From: here, To: there, Opts: "\x07\x04xy"}
	s := packet(t, h, of(5))
	for _, size := range []int{0, 1, 19, 23, 24, 25, 29, 30, 256, 65535} {
		wantQuoted(t, rightHead(with(s, 2, byte(size>>8), byte(size)), 24), h, of(5))
	}
	more := h
	more.More = true
	wantQuoted(t, rightHead(with(s, 6, 0x20, 0), 24), more, of(5))
	wantQuoted(t, rightHead(with(s, 6, 0x20, 0), 24)[:24], more, "")
	hold := h
	hold.Hold = true
	wantQuoted(t, rightHead(with(s, 6, 0x40, 0), 24), hold, of(5))
	wantQuoted(t, rightHead(with(s, 6, 0x80, 0), 24), h, of(5))
}

// P14.5: an error quotes the head, and the bytes, of what it is about, also once it was written and read.
func TestAboutWhat(t *testing.T) {
	d := drawer(2)
	for range 3000 {
		h := api.Head{
			Tos: uint8(d.next()), ID: uint16(d.next()), Hold: d.below(2) == 0, More: d.below(2) == 0,
			TTL: uint8(d.next()), Proto: uint8(2 + d.below(254)), From: 0x0a000000 + uint32(d.below(1<<24)), To: 0x0b000000 + uint32(d.below(1<<24)), Opts: d.text(4 * d.below(11)),
		}
		data := d.text(8 * (1 + d.below(4)))
		if !h.More {
			data = data[d.below(len(data)):]
		}
		m, is := Error(pick(&d, kinds...), uint8(d.next()), uint32(d.next()), packet(t, h, data)+d.text(d.below(3)))
		if !is {
			t.Fatalf("no error goes of %#v with %q", h, data)
		}
		read, e := Decode(written(t, m))
		if e != api.OK || read != m {
			t.Errorf("%#v is read as %#v, %v", m, read, e)
		}
		if g, first, is := Quoted(read); g != h || first != data[:min(len(data), 8)] || !is {
			t.Errorf("%#v with %q: %#v, %q, %v", h, data, g, first, is)
		}
	}
}

// byHand are the fields of a head of n bytes, read by their places.
func byHand(s string, n int) api.Head {
	two := func(at int) int { return int(s[at])<<8 + int(s[at+1]) }
	four := func(at int) uint32 { return uint32(two(at)<<16 + two(at+2)) }
	return api.Head{
		Tos: s[1], ID: uint16(two(4)), Hold: s[6]&0x40 != 0, More: s[6]&0x20 != 0, At: two(6) % 0x2000 * 8,
		TTL: s[8], Proto: s[9], From: four(12), To: four(16), Opts: s[20:n],
	}
}

// headByHand is the head that s begins with, if it is one, as all but its place asks for.
func headByHand(s string) (int, bool) {
	if len(s) < 20 || s[0]/16 != 4 {
		return 0, false
	}
	n := int(s[0]%16) * 4
	return n, n >= 20 && n <= len(s) && total(s[:n]) == math.MaxUint16
}

// quotedByHand is what Quoted answers, by the bytes alone.
func quotedByHand(m api.Icmp) (api.Head, string, bool) {
	n, is := headByHand(m.Data)
	if !isKind(m.Type) || !is || byHand(m.Data, n).At != 0 {
		return api.Head{}, "", false
	}
	return byHand(m.Data, n), m.Data[n:], true
}

// errorByHand is what Error answers, by the bytes alone.
func errorByHand(kind, code uint8, word uint32, s string) (api.Icmp, bool) {
	n, is := headByHand(s)
	if !isKind(kind) || !is {
		return api.Icmp{}, false
	}
	size := int(s[2])<<8 + int(s[3])
	h := byHand(s, n)
	if size < n || size > len(s) || s[6]&0x80 != 0 || h.At != 0 || h.More && (size == n || (size-n)%8 != 0) {
		return api.Icmp{}, false
	}
	from, to := h.From>>24, h.To>>24
	if h.From == 0 || from == 127 || from >= 224 || to >= 224 && to < 240 || h.To == 1<<32-1 {
		return api.Icmp{}, false
	}
	if h.Proto == 1 && (size == n || s[n] != 0 && s[n] != 8) {
		return api.Icmp{}, false
	}
	return api.Icmp{Type: kind, Code: code, Word: word, Data: s[:min(n+8, size)]}, true
}

// nearlyPacket are bytes that are often a packet, and else nearly one.
func (d *drawer) nearlyPacket() string {
	n := 20 + 4*d.below(11)*d.below(2)
	s := d.text(n + d.below(30))
	size := pick(d, len(s), len(s), len(s), len(s), n, n+8, n+16, n-1, len(s)+1, d.below(100))
	parts := pick(d, 0, 0, 0, 0, 1<<13, 1<<14, 1<<15, 1, d.below(1<<16))
	first := pick(d, 4<<4, 4<<4, 4<<4, 4<<4, 4<<4, 4<<4, 4<<4, d.below(16)<<4) + pick(d, n/4, n/4, n/4, n/4, n/4, n/4, n/4, d.below(16))
	from := pick(d, 10, 10, 10, 10, 10, 10, 10, 0, 127, 224, 240, 255, d.below(256))
	to := pick(d, 10, 10, 10, 10, 10, 10, 10, 0, 127, 224, 239, 240, 255, d.below(256))
	s = with(s, 0, byte(first))
	s = with(s, 2, byte(size>>8), byte(size))
	s = with(s, 6, byte(parts>>8), byte(parts))
	s = with(s, 9, byte(pick(d, 1, 6, 17, d.below(256))))
	s = with(s, 12, byte(from))
	s = with(s, 16, byte(to))
	if to == 255 && d.below(2) == 0 {
		s = with(s, 17, 255, 255, 255)
	}
	if from == 0 && d.below(2) == 0 {
		s = with(s, 13, 0, 0, 0)
	}
	if len(s) > n {
		s = with(s, n, byte(pick(d, 0, 8, 3, 11, 12, d.below(256))))
	}
	if d.below(12) > 0 {
		s = rightHead(s, n)
	}
	return s[:len(s)-pick(d, 0, 0, 0, 0, 0, 0, 0, 0, d.below(len(s)))]
}

// P14.3, P14.4: packets, and what is nearly one, held against what the bytes say.
func TestByHand(t *testing.T) {
	d := drawer(3)
	errors, quotes := 0, 0
	for range 60000 {
		s := d.nearlyPacket()
		kind := pick(&d, 3, 3, 11, 12, uint8(d.next()))
		code, word := uint8(d.next()), uint32(d.next())
		m, is := Error(kind, code, word, s)
		if want, wantIs := errorByHand(kind, code, word, s); m != want || is != wantIs {
			t.Errorf("Error(%d, %d, %d, %q): %#v, %v, want %#v, %v", kind, code, word, s, m, is, want, wantIs)
		}
		if is {
			errors++
		}
		about := api.Icmp{Type: kind, Code: code, Word: word, Data: s}
		h, first, is := Quoted(about)
		if wantH, wantFirst, wantIs := quotedByHand(about); h != wantH || first != wantFirst || is != wantIs {
			t.Errorf("Quoted(%#v): %#v, %q, %v, want %#v, %q, %v", about, h, first, is, wantH, wantFirst, wantIs)
		}
		if is {
			quotes++
		}
	}
	if errors < 4000 || quotes < 12000 {
		t.Errorf("of 60000 only %d are told of, and %d quoted", errors, quotes)
	}
}

// R1: whatever is handed in, each call ends.
func TestWhatever(t *testing.T) {
	d := drawer(4)
	for range 20000 {
		s := d.text(d.below(80))
		if len(s) > 0 && d.below(2) == 0 {
			s = with(s, 0, byte(4<<4|d.below(16)))
		}
		m := api.Icmp{Type: pick(&d, 0, 3, 8, 11, 12, uint8(d.next())), Code: uint8(d.next()), Word: uint32(d.next()), Data: s}
		Encode(m)
		Decode(s)
		Echo(m)
		Error(m.Type, m.Code, m.Word, s)
		Quoted(m)
	}
}

// shares tells whether two texts have bytes in common.
func shares(a, b string) bool {
	if a == "" || b == "" {
		return false
	}
	from, to := uintptr(unsafe.Pointer(unsafe.StringData(a))), uintptr(unsafe.Pointer(unsafe.StringData(b)))
	return from < to+uintptr(len(b)) && to < from+uintptr(len(a))
}

// R5: an answer is new memory.
func TestNewMemory(t *testing.T) {
	h := api.Head{Proto: 17, From: here, To: there, Opts: of(40)}
	for _, n := range []int{0, 4, 8, 400} {
		s := packet(t, h, of(n))
		told, is := Error(3, 3, 0, s)
		if !is || shares(told.Data, s) {
			t.Errorf("%d bytes: what Error answers shares bytes with the packet, or is none: %v", n, is)
		}
		g, first, is := Quoted(told)
		if !is || shares(g.Opts, told.Data) || shares(first, told.Data) || shares(g.Opts, first) {
			t.Errorf("%d bytes: what Quoted answers shares bytes, or is none: %v", n, is)
		}
		ask := api.Icmp{Type: 8, Data: of(n)}
		if r, is := Echo(ask); !is || shares(r.Data, ask.Data) {
			t.Errorf("%d bytes: an echo shares bytes, or is none: %v", n, is)
		}
		bytes := written(t, ask)
		if shares(bytes, ask.Data) {
			t.Errorf("%d bytes: what is written shares bytes", n)
		}
		if m, e := Decode(bytes); e != api.OK || shares(m.Data, bytes) {
			t.Errorf("%d bytes: what is read shares bytes, or is none: %v", n, e)
		}
	}
}

// R6: the same answer each time.
func TestSame(t *testing.T) {
	s := packet(t, api.Head{Proto: 17, From: here, To: there}, of(20))
	first, _ := Error(3, 3, 0, s)
	for range 5 {
		if again, is := Error(3, 3, 0, s); again != first || !is {
			t.Errorf("%#v, %v, at first %#v", again, is, first)
		}
		if written(t, plain) != plainBytes {
			t.Error("a message is written otherwise")
		}
	}
}

// R7: the texts of the errors that the chapter names.
func TestErrorTexts(t *testing.T) {
	_, short := Decode("")
	_, wrong := Decode("12345678")
	_, long := Encode(api.Icmp{Data: of(mostData + 1)})
	for e, want := range map[api.Errno]string{short: "error 10", wrong: "error 101", long: "error 4"} {
		if e.Error() != want {
			t.Errorf("%q, want %q", e.Error(), want)
		}
	}
}
