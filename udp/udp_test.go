package udp

import (
	"math"
	"strings"
	"testing"
	"unsafe"

	"stevedore/api"
)

// here and there are the addresses of plain, a datagram no two bytes of whose fields are alike; plainBytes are its bytes.
const (
	here       = 0x01020304
	there      = 0x05060708
	plainBytes = "\x11\x22\x33\x44\x00\x0b\x9a\xd5\x77\x88\x99"
)

// plain is the datagram of plainBytes.
var plain = between(api.Addr{IP: here, Port: 0x1122}, api.Addr{IP: there, Port: 0x3344}, "\x77\x88\x99")

// mostBytes is how many bytes of data a datagram has at most: a packet's bytes, less its head's 20, less a datagram's own 8.
const mostBytes = 65507

// drawer makes numbers that look like chance and are the same each time.
type drawer uint64

func (d *drawer) next() uint64 {
	*d = *d*6364136223846793005 + 1442695040888963407
	return uint64(*d >> 24)
}

func (d *drawer) below(n int) int { return int(d.next() >> 8 % uint64(n)) }

func (d *drawer) text(n int) string {
	b := make([]byte, n)
	for i := range b {
		b[i] = byte(d.next())
	}
	return string(b)
}

func (d *drawer) addr() api.Addr {
	return api.Addr{IP: pick(d, 0, 1, math.MaxUint32, 0x0000ffff, 0xffff0000, uint32(d.next())), Port: pick(d, 0, 1, math.MaxUint16, uint16(d.next()))}
}

// pick is one of a list.
func pick[T any](d *drawer, l ...T) T { return l[d.below(len(l))] }

// of are so many bytes that are unlike wherever they are taken from, as far as a test can see it.
func of(n int) string {
	b := make([]byte, n)
	for i := range b {
		b[i] = byte(i>>8 ^ i*7 ^ 'd')
	}
	return string(b)
}

// with is s with other bytes at a place.
func with(s string, at int, b ...byte) string { return s[:at] + string(b) + s[at+len(b):] }

// saying is s that says that it has n bytes.
func saying(s string, n int) string { return with(s, 4, byte(n>>8), byte(n)) }

// noSummed is s whose checksum says nothing.
func noSummed(s string) string { return with(s, 6, 0, 0) }

// between is a datagram.
func between(from, to api.Addr, data string) api.Datagram {
	return api.Datagram{Pair: api.Pair{From: from, To: to}, Data: data}
}

// total is the sum of the words of s, of which one that lacks a byte has 0 there, with what is above a word added at the bottom.
func total(s string) int {
	x := 0
	for i := range len(s) {
		x += int(s[i]) << (8 * (1 - i%2))
	}
	if x == 0 {
		return 0
	}
	return (x-1)%math.MaxUint16 + 1
}

// four are the bytes of an address.
func four(ip uint32) string {
	return string([]byte{byte(ip >> 24), byte(ip >> 16), byte(ip >> 8), byte(ip)})
}

// front is what the sum of s between two addresses has ahead, if it says that it has n bytes.
func front(from, to uint32, n int) string {
	return four(from) + four(to) + string([]byte{0, 17, byte(n >> 8), byte(n)})
}

// right is s with the checksum that its first n bytes, which it says it has, call for.
func right(from, to uint32, s string, n int) string {
	c := math.MaxUint16 - total(front(from, to, n)+noSummed(s)[:n])
	if c == 0 {
		c = math.MaxUint16
	}
	return with(s, 6, byte(c>>8), byte(c))
}

// encodeByHand is what the chapter says that Encode answers.
func encodeByHand(d api.Datagram) (string, api.Errno) {
	n := 8 + len(d.Data)
	if n > 8+mostBytes {
		return "", api.ErrLong
	}
	f, t := d.Pair.From, d.Pair.To
	s := string([]byte{byte(f.Port >> 8), byte(f.Port), byte(t.Port >> 8), byte(t.Port), byte(n >> 8), byte(n), 0, 0}) + d.Data
	return right(f.IP, t.IP, s, n), api.OK
}

// decodeByHand is what the chapter says that Decode answers.
func decodeByHand(from, to uint32, s string) (api.Datagram, api.Errno) {
	if len(s) < 8 {
		return api.Datagram{}, api.ErrShort
	}
	n := int(s[4])<<8 | int(s[5])
	if n < 8 {
		return api.Datagram{}, api.ErrForm
	}
	if len(s) < n {
		return api.Datagram{}, api.ErrShort
	}
	if n-8 > mostBytes {
		return api.Datagram{}, api.ErrLong
	}
	if s[6:8] != "\x00\x00" && total(front(from, to, n)+s[:n]) != math.MaxUint16 {
		return api.Datagram{}, api.ErrSum
	}
	return between(api.Addr{IP: from, Port: uint16(s[0])<<8 | uint16(s[1])}, api.Addr{IP: to, Port: uint16(s[2])<<8 | uint16(s[3])}, s[8:n]), api.OK
}

// written is what Encode makes of what may be.
func written(t *testing.T, d api.Datagram) string {
	t.Helper()
	s, e := Encode(d)
	if e != api.OK {
		t.Fatalf("Encode(%.80q): %v", d.Data, e)
	}
	return s
}

// wantDecode holds what is read against what is wanted.
func wantDecode(t *testing.T, from, to uint32, s string, want api.Datagram, wantE api.Errno) {
	t.Helper()
	if d, e := Decode(from, to, s); d != want || e != wantE {
		t.Errorf("Decode(%#x, %#x, %.40q, %d bytes): %+v %.80q %v, want %v", from, to, s, len(s), d.Pair, d.Data, e, wantE)
	}
}

// wantNone holds that nothing is read, and why.
func wantNone(t *testing.T, from, to uint32, s string, wantE api.Errno) {
	t.Helper()
	wantDecode(t, from, to, s, api.Datagram{}, wantE)
}

// wantRead holds that s is read as d by those whose addresses it was written for.
func wantRead(t *testing.T, d api.Datagram, s string) {
	t.Helper()
	wantDecode(t, d.Pair.From.IP, d.Pair.To.IP, s, d, api.OK)
}

// P15.1, P15.2: the chapter's example.
func TestExamples(t *testing.T) {
	d := between(api.Addr{IP: 1, Port: 1}, api.Addr{IP: 2, Port: 2}, "ab")
	s, e := Encode(d)
	if len(s) != 10 || s[:6] != "\x00\x01\x00\x02\x00\x0a" || s[8:] != "ab" || e != api.OK {
		t.Errorf("%q, %v", s, e)
	}
	wantRead(t, d, s)
	wantRead(t, d, s[:6]+"\x00\x00ab")
}

// P15.1: the bytes written out, field by field, each field at its least and its greatest. The sums are added up by hand: 0x0011 is the protocol, and how many bytes there are counts twice.
func TestBytes(t *testing.T) {
	for _, c := range []struct {
		d    api.Datagram
		want string
	}{
		{plain, plainBytes},
		{api.Datagram{}, "\x00\x00\x00\x00\x00\x08\xff\xde"},
		{between(api.Addr{Port: math.MaxUint16}, api.Addr{}, ""), "\xff\xff\x00\x00\x00\x08\xff\xde"},
		{between(api.Addr{}, api.Addr{Port: math.MaxUint16}, ""), "\x00\x00\xff\xff\x00\x08\xff\xde"},
		{between(api.Addr{Port: 1}, api.Addr{}, ""), "\x00\x01\x00\x00\x00\x08\xff\xdd"},
		{between(api.Addr{}, api.Addr{Port: 1}, ""), "\x00\x00\x00\x01\x00\x08\xff\xdd"},
		{between(api.Addr{Port: 0x1234}, api.Addr{Port: 0x5678}, ""), "\x12\x34\x56\x78\x00\x08\x97\x32"},
		{between(api.Addr{IP: 1}, api.Addr{}, ""), "\x00\x00\x00\x00\x00\x08\xff\xdd"},
		{between(api.Addr{IP: 1 << 16}, api.Addr{}, ""), "\x00\x00\x00\x00\x00\x08\xff\xdd"},
		{between(api.Addr{}, api.Addr{IP: 1}, ""), "\x00\x00\x00\x00\x00\x08\xff\xdd"},
		{between(api.Addr{}, api.Addr{IP: 1 << 16}, ""), "\x00\x00\x00\x00\x00\x08\xff\xdd"},
		{between(api.Addr{IP: math.MaxUint32}, api.Addr{IP: math.MaxUint32}, ""), "\x00\x00\x00\x00\x00\x08\xff\xde"},
		{between(api.Addr{IP: math.MaxUint32, Port: math.MaxUint16}, api.Addr{IP: math.MaxUint32, Port: math.MaxUint16}, "\xff\xff"), "\xff\xff\xff\xff\x00\x0a\xff\xda\xff\xff"},
		{between(api.Addr{}, api.Addr{}, "\x00"), "\x00\x00\x00\x00\x00\x09\xff\xdc\x00"},
		{between(api.Addr{}, api.Addr{}, "\x01"), "\x00\x00\x00\x00\x00\x09\xfe\xdc\x01"},
		{between(api.Addr{}, api.Addr{}, "\x00\x01"), "\x00\x00\x00\x00\x00\x0a\xff\xd9\x00\x01"},
		{between(api.Addr{}, api.Addr{}, "\x01\x02\x03"), "\x00\x00\x00\x00\x00\x0b\xfb\xd6\x01\x02\x03"},
	} {
		if s, e := Encode(c.d); s != c.want || e != api.OK {
			t.Errorf("Encode(%#v): %q, %v, want %q", c.d, s, e, c.want)
		}
		wantRead(t, c.d, c.want)
	}
}

// P15.1: how many bytes of data a datagram may have, an odd and an even number of them among these.
func TestLong(t *testing.T) {
	for n, want := range map[int]api.Errno{
		0: api.OK, 1: api.OK, 2: api.OK, 3: api.OK, 255: api.OK, 256: api.OK, 1000: api.OK, 1001: api.OK,
		mostBytes - 1: api.OK, mostBytes: api.OK, mostBytes + 1: api.ErrLong, 65527: api.ErrLong, 65528: api.ErrLong, 65536: api.ErrLong, 1 << 20: api.ErrLong,
	} {
		d := between(api.Addr{IP: here, Port: 7}, api.Addr{IP: there, Port: 9}, of(n))
		s, e := Encode(d)
		wantS, wantE := encodeByHand(d)
		if s != wantS || e != want || e != wantE {
			t.Errorf("%d bytes of data: %d bytes, %v, want %v", n, len(s), e, want)
		}
		if e == api.OK {
			wantRead(t, d, s)
		}
	}
}

// P15.1: a checksum that would be 0 is 65,535, whatever makes it so, and is one that counts.
func TestFull(t *testing.T) {
	const full = "\xff\xff"
	for _, d := range []api.Datagram{
		between(api.Addr{Port: 0xffde}, api.Addr{}, ""),
		between(api.Addr{}, api.Addr{Port: 0xffde}, ""),
		between(api.Addr{IP: 0xffde}, api.Addr{}, ""),
		between(api.Addr{IP: 0xffde0000}, api.Addr{}, ""),
		between(api.Addr{}, api.Addr{IP: 0xffde}, ""),
		between(api.Addr{}, api.Addr{IP: 0xffde0000}, ""),
		between(api.Addr{}, api.Addr{}, "\xff\xda"),
		between(api.Addr{Port: 0x00dc}, api.Addr{}, "\xff"),
	} {
		s := written(t, d)
		if s[6:8] != full {
			t.Errorf("%#v: %q", d, s)
		}
		wantRead(t, d, s)
		wantNone(t, d.Pair.From.IP+1, d.Pair.To.IP, s, api.ErrSum)
		wantNone(t, d.Pair.From.IP, d.Pair.To.IP, with(s, 1, s[1]+1), api.ErrSum)
	}
	for port := range 1 << 16 {
		d := between(api.Addr{IP: here, Port: uint16(port)}, api.Addr{IP: there}, "odd")
		if s := written(t, d); s[6:8] == "\x00\x00" || s != right(here, there, s, len(s)) {
			t.Errorf("port %d: %q", port, s)
		}
	}
}

// P15.2: bytes that are fewer than a head are too short, whatever they say; just a head is enough.
func TestShort(t *testing.T) {
	for n := range 8 {
		wantNone(t, here, there, plainBytes[:n], api.ErrShort)
		wantNone(t, here, there, strings.Repeat("\x00", n), api.ErrShort)
		wantNone(t, here, there, strings.Repeat("\xff", n), api.ErrShort)
		if n >= 6 {
			wantNone(t, here, there, saying(plainBytes[:n], n), api.ErrShort)
			wantNone(t, here, there, saying(plainBytes[:n], 0), api.ErrShort)
		}
	}
	d := between(api.Addr{IP: here, Port: 0x1122}, api.Addr{IP: there, Port: 0x3344}, "")
	head := saying(plainBytes[:8], 8)
	wantRead(t, d, right(here, there, head, 8))
	wantRead(t, d, noSummed(head))
	wantNone(t, here, there, head, api.ErrSum)
}

// P15.2: how many bytes it says that it has: fewer than a head, just a head, fewer than there are, as many, more.
func TestSays(t *testing.T) {
	s := plainBytes + of(20)
	for n := range 1 << 16 {
		told := noSummed(saying(s, n))
		wantE := api.OK
		switch {
		case n < 8:
			wantE = api.ErrForm
		case n > len(s):
			wantE = api.ErrShort
		}
		if wantE != api.OK {
			wantNone(t, here, there, told, wantE)
			wantNone(t, here, there, saying(s, n), wantE)
			continue
		}
		d := plain
		d.Data = s[8:n]
		wantRead(t, d, told)
		wantRead(t, d, right(here, there, told, n))
	}
}

// P15.2: data of just as many bytes as may be, and of more.
func TestMost(t *testing.T) {
	all := plainBytes[:8] + of(1<<16)
	for n := mostBytes - 2; n <= math.MaxUint16-8; n++ {
		s := right(here, there, saying(all, 8+n), 8+n)
		for _, u := range []string{s, s[:8+n], noSummed(s), noSummed(s)[:8+n]} {
			if n > mostBytes {
				wantNone(t, here, there, u, api.ErrLong)
				continue
			}
			d := plain
			d.Data = all[8 : 8+n]
			wantRead(t, d, u)
		}
		wantNone(t, here, there, s[:8+n-1], api.ErrShort)
		wantNone(t, here, there, noSummed(s)[:8+n-1], api.ErrShort)
	}
}

// P15.2: what stands behind as many bytes as it says does not count, neither for the sum nor in what is read; an odd number of bytes among these.
func TestBehind(t *testing.T) {
	for n := range 9 {
		d := plain
		d.Data = of(n)
		s := written(t, d)
		for _, behind := range []string{"", "\x00", "\x01", "\xff\xff", plainBytes, s, of(70000)} {
			wantRead(t, d, s+behind)
			wantRead(t, d, noSummed(s)+behind)
			wantNone(t, here, there, with(s, 0, s[0]^1)+behind, api.ErrSum)
		}
	}
	// It is as many bytes as it says that the head in front has, not as many as there are.
	s := right(here, there, saying(plainBytes+"\x00\x00", 11), 11)
	wantRead(t, plain, s)
	wantNone(t, here, there, right(here, there, plainBytes, 8), api.ErrSum)
}

// P15.2: a checksum of 0 says nothing: bytes are read that are right (there is nobody to tell), and those that are not; each other one counts.
func TestSums(t *testing.T) {
	s := written(t, plain)
	for c := range 1 << 16 {
		u := with(s, 6, byte(c>>8), byte(c))
		if c == 0 || u == s {
			wantRead(t, plain, u)
		} else {
			wantNone(t, here, there, u, api.ErrSum)
		}
	}
	// These are right with 0 and with 65,535: both are nothing to who adds up.
	d := between(api.Addr{Port: 0xffde}, api.Addr{}, "")
	u := written(t, d)
	wantRead(t, d, u)
	wantRead(t, d, noSummed(u))
	// The same bytes with other addresses, which nobody tells.
	for _, other := range []uint32{0, 1, here, math.MaxUint32} {
		d.Pair.From.IP, d.Pair.To.IP = other, other+1
		wantRead(t, d, noSummed(u))
	}
}

// P15.2: which of two errors is told where both are there.
func TestFirstOfTwo(t *testing.T) {
	huge := saying(plainBytes[:8], math.MaxUint16) + of(1<<16)
	for _, c := range []struct {
		s    string
		want api.Errno
	}{
		{saying(plainBytes[:7], 0), api.ErrShort}, // too short, and says less than a head
		{saying(plainBytes[:7], math.MaxUint16), api.ErrShort},
		{saying(plainBytes[:8], 0), api.ErrForm}, // says less than a head, and its sum is wrong
		{saying(plainBytes[:8], 7), api.ErrForm},
		{saying(plainBytes[:8], 9), api.ErrShort}, // fewer than it says, and its sum is wrong
		{saying(plainBytes[:8], math.MaxUint16), api.ErrShort},
		{huge[:math.MaxUint16-1], api.ErrShort}, // fewer than it says, and too long
		{huge[:math.MaxUint16], api.ErrLong},    // too long, and its sum is wrong
		{huge, api.ErrLong},
		{right(here, there, huge, math.MaxUint16), api.ErrLong},
		{noSummed(huge), api.ErrLong},
	} {
		wantNone(t, here, there, c.s, c.want)
	}
}

// P15.3: each byte as each other one is told, unless it is in the length, or the checksum is 0 then.
func TestOtherBytes(t *testing.T) {
	for _, d := range []api.Datagram{
		plain,
		{},
		between(api.Addr{IP: math.MaxUint32, Port: math.MaxUint16}, api.Addr{IP: math.MaxUint32, Port: math.MaxUint16}, strings.Repeat("\xff", 9)),
		between(api.Addr{Port: 0xffde}, api.Addr{}, ""),
		between(api.Addr{IP: here, Port: 1}, api.Addr{IP: there, Port: 2}, of(30)),
		between(api.Addr{Port: 0xfeda}, api.Addr{}, "\x00\x01\x00"),
		between(api.Addr{Port: 0xfe00}, api.Addr{Port: 0x00df}, ""),
	} {
		s := written(t, d)
		for i := range s {
			for b := range 256 {
				u := with(s, i, byte(b))
				switch want, wantE := decodeByHand(d.Pair.From.IP, d.Pair.To.IP, u); {
				case u == s:
					wantRead(t, d, u)
				case u[6:8] == "\x00\x00":
					wantRead(t, d, u)
				case i == 4 || i == 5:
					wantDecode(t, d.Pair.From.IP, d.Pair.To.IP, u, want, wantE)
					wantDecode(t, d.Pair.From.IP, d.Pair.To.IP, u+of(70000), decoded(d, u+of(70000)), decodedErr(d, u+of(70000)))
				default:
					wantNone(t, d.Pair.From.IP, d.Pair.To.IP, u, api.ErrSum)
				}
			}
		}
	}
}

// decoded and decodedErr are the two answers of decodeByHand for a datagram's addresses.
func decoded(d api.Datagram, s string) api.Datagram {
	out, _ := decodeByHand(d.Pair.From.IP, d.Pair.To.IP, s)
	return out
}

func decodedErr(d api.Datagram, s string) api.Errno {
	_, e := decodeByHand(d.Pair.From.IP, d.Pair.To.IP, s)
	return e
}

// half are 16 bits of an address.
func half(ip uint32, at int) uint16 { return uint16(ip >> (16 * at)) }

// withHalf is an address with other 16 bits.
func withHalf(ip uint32, at int, x uint16) uint32 {
	return ip&^(math.MaxUint16<<(16*at)) | uint32(x)<<(16*at)
}

// P15.3: whoever has another address in one half of it is told, unless that half is 0 and 65,535.
func TestOtherAddresses(t *testing.T) {
	halves := []uint16{0, 1, 2, 0x00ff, 0x0102, 0x7fff, 0x8000, 0xff00, 0xfffe, 0xffff}
	for _, data := range []string{"", "a", "data"} {
		for _, was := range halves {
			for at := range 2 {
				for _, is := range halves {
					ip := withHalf(here, at, was)
					other := withHalf(ip, at, is)
					same := was == is || was == 0 && is == math.MaxUint16 || was == math.MaxUint16 && is == 0
					d := between(api.Addr{IP: ip, Port: 9}, api.Addr{IP: there, Port: 8}, data)
					e := between(api.Addr{IP: there, Port: 9}, api.Addr{IP: ip, Port: 8}, data)
					s, u := written(t, d), written(t, e)
					if same {
						d.Pair.From.IP, e.Pair.To.IP = other, other
						wantRead(t, d, s)
						wantRead(t, e, u)
						continue
					}
					wantNone(t, other, there, s, api.ErrSum)
					wantNone(t, there, other, u, api.ErrSum)
				}
			}
		}
	}
	s := written(t, plain)
	for at := range 2 {
		for x := range 1 << 16 {
			from, to := withHalf(here, at, uint16(x)), withHalf(there, at, uint16(x))
			if uint16(x) != half(here, at) {
				wantNone(t, from, there, s, api.ErrSum)
			}
			if uint16(x) != half(there, at) {
				wantNone(t, here, to, s, api.ErrSum)
			}
		}
	}
}

// P15.2, P15.3: halves that are exchanged are not told: a sum does not see who stands where.
func TestExchanged(t *testing.T) {
	d := plain
	s := written(t, plain)
	d.Pair.From.IP, d.Pair.To.IP = there, here
	wantRead(t, d, s)
	d.Pair.From.IP, d.Pair.To.IP = 0x03040102, 0x07080506
	wantRead(t, d, s)
}

// P15.1, P15.2, P15.3: datagrams drawn, as they are by hand, and read again, whatever stands behind.
func TestByHand(t *testing.T) {
	var d drawer = 15
	for range 20000 {
		g := between(d.addr(), d.addr(), d.text(pick(&d, 0, 1, d.below(20), d.below(300))))
		s := written(t, g)
		if want, _ := encodeByHand(g); s != want {
			t.Fatalf("Encode(%#v): %q, want %q", g, s, want)
		}
		wantRead(t, g, s+d.text(d.below(5)))
		u := s
		for range d.below(3) {
			if at := d.below(len(u)); d.below(4) > 0 {
				u = with(u, at, byte(d.next()))
			} else {
				u = u[:at+1]
			}
		}
		from, to := pick(&d, g.Pair.From.IP, d.addr().IP), pick(&d, g.Pair.To.IP, d.addr().IP)
		want, wantE := decodeByHand(from, to, u)
		wantDecode(t, from, to, u, want, wantE)
	}
}

// R1: whatever is given, each call ends.
func TestWhatever(t *testing.T) {
	var d drawer = 1
	for range 50000 {
		s := d.text(d.below(24))
		if len(s) > 5 && d.below(2) == 0 {
			s = saying(s, d.below(30))
		}
		if len(s) > 7 && d.below(2) == 0 {
			s = noSummed(s)
		}
		from, to := d.addr().IP, d.addr().IP
		want, wantE := decodeByHand(from, to, s)
		wantDecode(t, from, to, s, want, wantE)
	}
}

// isShared tells whether two texts share memory.
func isShared(a, b string) bool {
	if a == "" || b == "" {
		return false
	}
	at, bt := uintptr(unsafe.Pointer(unsafe.StringData(a))), uintptr(unsafe.Pointer(unsafe.StringData(b)))
	return at < bt+uintptr(len(b)) && bt < at+uintptr(len(a))
}

// R5: an answer is new memory.
func TestNewMemory(t *testing.T) {
	d := plain
	d.Data = of(1000)
	s := written(t, d)
	if isShared(s, d.Data) {
		t.Error("what was written is the data")
	}
	if g, _ := Decode(here, there, s); isShared(g.Data, s) {
		t.Error("the data is a piece of what was read")
	}
}

// R6: a call's answer is the same each time.
func TestSameEachTime(t *testing.T) {
	s := written(t, plain)
	for range 3 {
		wantNone(t, here, there+1, s, api.ErrSum)
		if u := written(t, plain); u != s {
			t.Errorf("%q, then %q", s, u)
		}
		wantRead(t, plain, s)
	}
}

// R7: what errors say.
func TestErrorTexts(t *testing.T) {
	for want, s := range map[string]string{
		"error 8":   saying(plainBytes, 7),
		"error 10":  plainBytes[:7],
		"error 4":   saying(plainBytes, 65516) + of(65516),
		"error 101": with(plainBytes, 0, 1),
		"error 0":   plainBytes,
	} {
		if _, e := Decode(here, there, s); e.Error() != want {
			t.Errorf("%.20q: %q, want %q", s, e.Error(), want)
		}
	}
}
