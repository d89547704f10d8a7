package arp

import (
	"strings"
	"testing"
	"unsafe"

	"stevedore/api"
)

// Addresses of the chapter's example.
const (
	one uint32 = 0x0a000001 // 10.0.0.1
	two uint32 = 0x0a000002 // 10.0.0.2
)

// Numbers of all bits.
const (
	allMac api.Mac = 1<<64 - 1
	allIP  uint32  = 1<<32 - 1
)

// plain is a packet no two bytes of whose fields are alike, and plainBytes are its bytes.
var plain = api.Arp{Op: api.ArpTell, From: 0x112233445566, IP: 0x778899aa, To: 0xbbccddeeff10, For: 0x20304050}

const plainBytes = "\x00\x01\x08\x00\x06\x04\x00\x02\x11\x22\x33\x44\x55\x66\x77\x88\x99\xaa\xbb\xcc\xdd\xee\xff\x10\x20\x30\x40\x50"

// drawer makes numbers that look like chance and are the same each time.
type drawer uint64

func (d *drawer) next() uint64 {
	*d = *d*6364136223846793005 + 1442695040888963407
	return uint64(*d >> 24)
}

func (d *drawer) mac() api.Mac { return api.Mac(d.next()<<24^d.next()) & api.Broadcast }

func (d *drawer) text(n int) string {
	b := make([]byte, n)
	for i := range b {
		b[i] = byte(d.next())
	}
	return string(b)
}

// packet is one that may be.
func (d *drawer) packet() api.Arp {
	return api.Arp{Op: 1 + uint16(d.next()>>8%2), From: d.mac(), IP: uint32(d.next()), To: d.mac(), For: uint32(d.next())}
}

// noughts are so many bytes 0.
func noughts(n int) string { return strings.Repeat("\x00", n) }

// with is s with another byte at a place.
func with(s string, at int, b byte) string { return s[:at] + string([]byte{b}) + s[at+1:] }

// some are packets that may be, at the edges of their fields, and drawn ones.
func some() []api.Arp {
	var out []api.Arp
	for _, op := range []uint16{api.ArpAsk, api.ArpTell} {
		for _, m := range []api.Mac{0, 1, 1 << 40, 1<<47 - 1, 1 << 47, api.Broadcast} {
			for _, ip := range []uint32{0, 1, one, 1 << 31, allIP} {
				out = append(out, api.Arp{Op: op, From: m}, api.Arp{Op: op, IP: ip}, api.Arp{Op: op, To: m}, api.Arp{Op: op, For: ip},
					api.Arp{Op: op, From: m, IP: ip, To: api.Broadcast - m, For: allIP - ip})
			}
		}
	}
	d := drawer(8)
	for range 300 {
		out = append(out, d.packet())
	}
	return out
}

// P8.1: the bytes written out, field by field.
func TestEncode(t *testing.T) {
	for _, c := range []struct {
		a    api.Arp
		want string
	}{
		{plain, plainBytes},
		{api.Arp{Op: api.ArpAsk}, "\x00\x01\x08\x00\x06\x04\x00\x01" + noughts(20)},
		{api.Arp{Op: api.ArpAsk, From: api.Broadcast}, "\x00\x01\x08\x00\x06\x04\x00\x01" + strings.Repeat("\xff", 6) + noughts(14)},
		{api.Arp{Op: api.ArpAsk, IP: allIP}, "\x00\x01\x08\x00\x06\x04\x00\x01" + noughts(6) + strings.Repeat("\xff", 4) + noughts(10)},
		{api.Arp{Op: api.ArpTell, To: api.Broadcast}, "\x00\x01\x08\x00\x06\x04\x00\x02" + noughts(10) + strings.Repeat("\xff", 6) + noughts(4)},
		{api.Arp{Op: api.ArpTell, For: allIP}, "\x00\x01\x08\x00\x06\x04\x00\x02" + noughts(16) + strings.Repeat("\xff", 4)},
		{api.Arp{Op: api.ArpTell, From: api.Broadcast, IP: allIP, To: api.Broadcast, For: allIP}, "\x00\x01\x08\x00\x06\x04\x00\x02" + strings.Repeat("\xff", 20)},
	} {
		if s, e := Encode(c.a); s != c.want || e != api.OK {
			t.Errorf("Encode(%+v): %q, %v, want %q", c.a, s, e, c.want)
		}
	}
}

// P8.1: which Ops a packet may have, and which not.
func TestEncodeOps(t *testing.T) {
	for op := range 1 << 16 {
		a := plain
		a.Op = uint16(op)
		s, e := Encode(a)
		if op == 1 || op == 2 {
			if s != with(plainBytes, 7, byte(op)) || e != api.OK {
				t.Errorf("Op %d: %q, %v", op, s, e)
			}
		} else if s != "" || e != api.ErrArg {
			t.Errorf("Op %d: %q, %v", op, s, e)
		}
	}
}

// P8.1: of how many bits From and To may be; whatever else is wrong, it is one error.
func TestEncodeRefuses(t *testing.T) {
	for _, op := range []uint16{0, api.ArpAsk, api.ArpTell, 3, 1<<16 - 1} {
		for _, from := range []api.Mac{0, 1<<48 - 1, 1 << 48, 1<<48 + 1, 1 << 63, allMac} {
			for _, to := range []api.Mac{0, 1<<48 - 1, 1 << 48, 1<<48 + 1, 1 << 63, allMac} {
				may := (op == 1 || op == 2) && from < 1<<48 && to < 1<<48
				s, e := Encode(api.Arp{Op: op, From: from, IP: one, To: to, For: two})
				if may && (len(s) != api.ArpSize || e != api.OK) || !may && (s != "" || e != api.ErrArg) {
					t.Errorf("Op %d, From %x, To %x: %q, %v", op, from, to, s, e)
				}
			}
		}
	}
	if s, e := Encode(api.Arp{}); s != "" || e != api.ErrArg {
		t.Errorf("of nothing: %q, %v", s, e)
	}
}

// P8.1: what is read of which bytes, by name.
func TestDecode(t *testing.T) {
	if a, e := Decode(plainBytes); a != plain || e != api.OK {
		t.Errorf("%+v, %v", a, e)
	}
	head := plainBytes[:6]
	if a, e := Decode(head + "\x00\x01" + noughts(20)); a != (api.Arp{Op: api.ArpAsk}) || e != api.OK {
		t.Errorf("%+v, %v", a, e)
	}
	want := api.Arp{Op: api.ArpTell, From: api.Broadcast, IP: allIP, To: api.Broadcast, For: allIP}
	if a, e := Decode(head + "\x00\x02" + strings.Repeat("\xff", 20)); a != want || e != api.OK {
		t.Errorf("%+v, %v", a, e)
	}
}

// P8.1: of how many bytes there may be a packet; what stands behind does not count.
func TestDecodeSizes(t *testing.T) {
	for n := range api.ArpSize {
		if a, e := Decode(plainBytes[:n]); a != (api.Arp{}) || e != api.ErrShort {
			t.Errorf("of %d bytes: %+v, %v", n, a, e)
		}
	}
	d := drawer(9)
	for _, n := range []int{0, 1, 2, 18, 28, 32, 1472, 65507, 1 << 20} {
		for _, behind := range []string{noughts(n), strings.Repeat("\xff", n), d.text(n)} {
			if a, e := Decode(plainBytes + behind); a != plain || e != api.OK {
				t.Errorf("with %d bytes behind: %+v, %v", n, a, e)
			}
		}
	}
	if a, e := Decode(plainBytes + plainBytes); a != plain || e != api.OK {
		t.Errorf("twice: %+v, %v", a, e)
	}
	if a, e := Decode("\x00" + plainBytes); a != (api.Arp{}) || e != api.ErrArp {
		t.Errorf("with a byte ahead: %+v, %v", a, e)
	}
}

// P8.1: each of the first six bytes is as it must be.
func TestDecodeHead(t *testing.T) {
	for at := range 6 {
		for b := range 256 {
			s := with(plainBytes, at, byte(b))
			a, e := Decode(s)
			if s == plainBytes {
				if a != plain || e != api.OK {
					t.Errorf("as it was: %+v, %v", a, e)
				}
			} else if a != (api.Arp{}) || e != api.ErrArp {
				t.Errorf("byte %d is %d: %+v, %v", at, b, a, e)
			}
		}
	}
}

// P8.1: each Op, and no other byte than its two tells whether there is a packet.
func TestDecodeOps(t *testing.T) {
	for op := range 1 << 16 {
		s := with(with(plainBytes, 6, byte(op>>8)), 7, byte(op))
		a, e := Decode(s)
		if op == 1 || op == 2 {
			want := plain
			want.Op = uint16(op)
			if a != want || e != api.OK {
				t.Errorf("Op %d: %+v, %v", op, a, e)
			}
		} else if a != (api.Arp{}) || e != api.ErrForm {
			t.Errorf("Op %d: %+v, %v", op, a, e)
		}
	}
	for at := 8; at < api.ArpSize; at++ {
		for b := range 256 {
			if a, e := Decode(with(plainBytes, at, byte(b))); a.Op != api.ArpTell || e != api.OK {
				t.Errorf("byte %d is %d: %+v, %v", at, b, a, e)
			}
		}
	}
}

// P8.1, R2: several errors at once: too few bytes ahead of a wrong head, that ahead of a wrong Op.
func TestDecodeErrorsAtOnce(t *testing.T) {
	head := plainBytes[:6]
	for _, c := range []struct {
		s    string
		want api.Errno
	}{
		{"", api.ErrShort},
		{"\xff", api.ErrShort},
		{noughts(27), api.ErrShort},
		{strings.Repeat("\xff", 27), api.ErrShort},
		{head + noughts(21), api.ErrShort},
		{with(plainBytes, 0, 1)[:27], api.ErrShort},
		{with(plainBytes, 7, 3)[:27], api.ErrShort},
		{noughts(28), api.ErrArp},
		{strings.Repeat("\xff", 28), api.ErrArp},
		{with(with(plainBytes, 5, 6), 7, 3), api.ErrArp},
		{with(with(plainBytes, 0, 1), 6, 1) + "behind", api.ErrArp},
		{head + noughts(22), api.ErrForm},
		{head + strings.Repeat("\xff", 22), api.ErrForm},
		{head + "\x01\x00" + noughts(20), api.ErrForm}, // Op's bytes the other way round
		{head + "\x01\x01" + noughts(20), api.ErrForm},
	} {
		if a, e := Decode(c.s); a != (api.Arp{}) || e != c.want {
			t.Errorf("Decode(%q): %+v, %v, want %v", c.s, a, e, c.want)
		}
	}
}

// P8.2: questions, with ordinary addresses and with such of all bits.
func TestAsk(t *testing.T) {
	for _, c := range []struct {
		own      api.Mac
		ip, whom uint32
	}{
		{1, one, two}, {2, two, one}, {0, 0, 0}, {api.Broadcast, 0, 0}, {0, allIP, 0}, {0, 0, allIP},
		{1, one, one}, {1 << 48, one, two}, {allMac, allIP, allIP}, {allMac, 1, 2},
	} {
		want := api.Arp{Op: 1, From: c.own, IP: c.ip, To: 0, For: c.whom}
		if a := Ask(c.own, c.ip, c.whom); a != want {
			t.Errorf("Ask(%x, %x, %x): %+v", c.own, c.ip, c.whom, a)
		}
	}
}

// P8.2: a host's question who has its own address.
func TestCall(t *testing.T) {
	for _, c := range []struct {
		own api.Mac
		ip  uint32
	}{{1, one}, {2, two}, {0, 0}, {api.Broadcast, 0}, {0, allIP}, {1 << 48, 1}, {allMac, allIP}} {
		want := api.Arp{Op: 1, From: c.own, IP: c.ip, To: 0, For: c.ip}
		if a := Call(c.own, c.ip); a != want {
			t.Errorf("Call(%x, %x): %+v", c.own, c.ip, a)
		}
	}
}

// P8.2: answers; the chapter's example is the first one.
func TestTell(t *testing.T) {
	for _, c := range []struct {
		a    api.Arp
		own  api.Mac
		want api.Arp
	}{
		{Ask(1, one, two), 2, api.Arp{Op: 2, From: 2, IP: two, To: 1, For: one}},
		{Call(1, one), 2, api.Arp{Op: 2, From: 2, IP: one, To: 1, For: one}},
		{api.Arp{Op: 1}, 0, api.Arp{Op: 2}},
		{api.Arp{Op: 1, From: 3, IP: 4, To: 5, For: 6}, 7, api.Arp{Op: 2, From: 7, IP: 6, To: 3, For: 4}}, // To of a question does not count
		{api.Arp{Op: 1, From: 3, IP: 4, To: allMac, For: 6}, 3, api.Arp{Op: 2, From: 3, IP: 6, To: 3, For: 4}},
		{Ask(allMac, allIP, 0), 0, api.Arp{Op: 2, To: allMac, For: allIP}},
		{Ask(0, 0, allIP), allMac, api.Arp{Op: 2, From: allMac, IP: allIP}},
		{Ask(allMac, allIP, allIP), allMac, api.Arp{Op: 2, From: allMac, IP: allIP, To: allMac, For: allIP}},
		{Ask(1<<48, one, two), 1<<48 + 1, api.Arp{Op: 2, From: 1<<48 + 1, IP: two, To: 1 << 48, For: one}},
	} {
		if a, is := Tell(c.a, c.own); a != c.want || !is {
			t.Errorf("Tell(%+v, %x): %+v, %v", c.a, c.own, a, is)
		}
	}
}

// P8.2: only a question is answered.
func TestTellOps(t *testing.T) {
	for op := range 1 << 16 {
		a := plain
		a.Op = uint16(op)
		b, is := Tell(a, 9)
		if op == 1 {
			if b != (api.Arp{Op: 2, From: 9, IP: plain.For, To: plain.From, For: plain.IP}) || !is {
				t.Errorf("of a question: %+v, %v", b, is)
			}
		} else if b != (api.Arp{}) || is {
			t.Errorf("Op %d: %+v, %v", op, b, is)
		}
	}
	if b, is := Tell(api.Arp{}, allMac); b != (api.Arp{}) || is {
		t.Errorf("of nothing: %+v, %v", b, is)
	}
	answer, _ := Tell(Ask(1, one, two), 2)
	if b, is := Tell(answer, 1); b != (api.Arp{}) || is {
		t.Errorf("of an answer: %+v, %v", b, is)
	}
}

// P8.3: the chapter's example of what fills a short frame.
func TestExampleIsRead(t *testing.T) {
	a, is := Tell(Ask(1, one, two), 2)
	s, e := Encode(a)
	if b, f := Decode(s + noughts(18)); b != a || !is || e != api.OK || f != api.OK {
		t.Errorf("%+v, %v, %v, %v", b, is, e, f)
	}
}

// P8.3: what was written is read, whatever stands behind.
func TestWrittenIsRead(t *testing.T) {
	d := drawer(10)
	for i, a := range some() {
		s, e := Encode(a)
		if len(s) != api.ArpSize || e != api.OK {
			t.Fatalf("Encode(%+v): %q, %v", a, s, e)
		}
		for _, behind := range []string{"", "\x00", "\xff", noughts(18), d.text(i), s} {
			if b, e := Decode(s + behind); b != a || e != api.OK {
				t.Fatalf("%+v was written, %+v is read, %v", a, b, e)
			}
		}
	}
}

// P8.3, T6: what is read is written as it was, but what stood behind.
func TestReadIsWritten(t *testing.T) {
	d := drawer(11)
	for n := range 500 {
		s := plainBytes[:7] + string([]byte{byte(1 + n%2)}) + d.text(20)
		a, e := Decode(s + d.text(n%40))
		if u, f := Encode(a); u != s || e != api.OK || f != api.OK {
			t.Fatalf("%q was read, %q is written, %v, %v", s, u, e, f)
		}
	}
}

// P8.3: who asks is told what it asked for, over the wire and back.
func TestAskedIsTold(t *testing.T) {
	carried := func(a api.Arp) api.Arp {
		s, e := Encode(a)
		b, f := Decode(s + noughts(18))
		if e != api.OK || f != api.OK {
			t.Fatalf("%+v: %v, %v", a, e, f)
		}
		return b
	}
	d := drawer(12)
	for range 500 {
		asks, has := d.mac(), d.mac()
		ip, whom := uint32(d.next()), uint32(d.next())
		answer, is := Tell(carried(Ask(asks, ip, whom)), has)
		if !is {
			t.Fatal("a question is none")
		}
		if b := carried(answer); b != (api.Arp{Op: api.ArpTell, From: has, IP: whom, To: asks, For: ip}) {
			t.Fatalf("%x at %x asks for %x, which %x has: %+v", asks, ip, whom, has, b)
		}
		answer, is = Tell(carried(Call(asks, ip)), has)
		if answer != (api.Arp{Op: api.ArpTell, From: has, IP: ip, To: asks, For: ip}) || !is {
			t.Fatalf("%x tells all of %x, which %x has: %+v, %v", asks, ip, has, answer, is)
		}
	}
}

// R5: answers are memory of their own.
func TestAnswersAreNewMemory(t *testing.T) {
	s, _ := Encode(plain)
	u, _ := Encode(plain)
	if unsafe.StringData(s) == unsafe.StringData(u) {
		t.Error("two packets' bytes are one memory")
	}
}

// R7: the layer's error has the layer's number, and tells it.
func TestErrorsTellTheirNumbers(t *testing.T) {
	_, e := Decode(noughts(28))
	var err error = e
	if e != 80 || err.Error() != "error 80" {
		t.Error(int(e), err.Error())
	}
}
