package ip4

import (
	"math"
	"slices"
	"strings"
	"testing"
	"unsafe"

	"stevedore/api"
)

// room is how many bytes of data a packet has without options.
const room = api.MaxPacket - api.HeadSize

// plain is a head no two bytes of whose fields are alike, plainData its data, and plainBytes are their bytes.
var plain = api.Head{Tos: 0x11, ID: 0x2233, Hold: true, At: 0x1456 * 8, TTL: 0x77, Proto: 0x88, From: 0x99aabbcc, To: 0xddeeff10, Opts: "\x21\x04\x43\x54"}

const (
	plainData  = "data!"
	plainBytes = "\x46\x11\x00\x1d\x22\x33\x54\x56\x77\x88\x34\xf0\x99\xaa\xbb\xcc\xdd\xee\xff\x10\x21\x04\x43\x54data!"
)

// known is a head with the checksum that is written of it elsewhere: 192.168.0.1 sends 95 bytes of UDP to 192.168.0.199.
const known = "\x45\x00\x00\x73\x00\x00\x40\x00\x40\x11\xb8\x61\xc0\xa8\x00\x01\xc0\xa8\x00\xc7"

// drawer makes numbers that look like chance and are the same each time.
type drawer uint64

func (d *drawer) next() uint64 {
	*d = *d*6364136223846793005 + 1442695040888963407
	return uint64(*d >> 24)
}

func (d *drawer) below(n int) int { return int(d.next() >> 8 % uint64(n)) }

func (d *drawer) text(n int) string {
	b := make([]byte, n)
	for i := range b {
		b[i] = byte(d.next())
	}
	return string(b)
}

// packet is a head with data that may be together.
func (d *drawer) packet() (api.Head, string) {
	h := api.Head{
		Tos: uint8(d.next()), ID: uint16(d.next()), Hold: d.below(2) == 0, More: d.below(2) == 0, At: 8 * d.below(8000),
		TTL: uint8(d.next()), Proto: uint8(d.next()), From: uint32(d.next()), To: uint32(d.next()), Opts: d.text(4 * d.below(11)),
	}
	n := d.below(100)
	if h.More {
		n = 8 + n/8*8
	}
	return h, d.text(n)
}

// of are so many bytes.
func of(n int) string { return strings.Repeat("d", n) }

// with is s with other bytes at a place.
func with(s string, at int, b ...byte) string { return s[:at] + string(b) + s[at+len(b):] }

// checked is the number that the words of a head of n bytes, the checksum apart, call for.
func checked(s string, n int) uint16 {
	x := 0
	for i := 0; i < n; i += 2 {
		if i != 10 {
			x += int(s[i])<<8 + int(s[i+1])
		}
	}
	return uint16(math.MaxUint16 - (x-1)%math.MaxUint16 - 1)
}

// right is s with the checksum that its head of n bytes calls for.
func right(s string, n int) string {
	c := checked(s, n)
	return with(s, 10, byte(c>>8), byte(c))
}

// written is what Encode makes of what may be.
func written(t *testing.T, h api.Head, data string) string {
	t.Helper()
	s, e := Encode(h, data)
	if e != api.OK {
		t.Fatalf("Encode(%#v, %d bytes): %v", h, len(data), e)
	}
	return s
}

// wantEncode holds what Encode answers of so much data against an error, or how many bytes there are.
func wantEncode(t *testing.T, h api.Head, n int, want api.Errno) {
	t.Helper()
	s, e := Encode(h, of(n))
	if e != want {
		t.Errorf("Encode(%#v, %d bytes): %v, want %v", h, n, e, want)
	}
	if e != api.OK && s != "" || e == api.OK && len(s) != 20+len(h.Opts)+n {
		t.Errorf("Encode(%#v, %d bytes): %d bytes, %v", h, n, len(s), e)
	}
}

// wantRefused holds an error of Decode, and of Pass, against what is wanted.
func wantRefused(t *testing.T, s string, want api.Errno) {
	t.Helper()
	if h, data, e := Decode(s); h != (api.Head{}) || data != "" || e != want {
		t.Errorf("Decode(%.40q, %d bytes): %#v, %.40q, %v, want %v", s, len(s), h, data, e, want)
	}
	if p, e := Pass(s); p != "" || e != want {
		t.Errorf("Pass(%.40q, %d bytes): %.40q, %v, want %v", s, len(s), p, e, want)
	}
}

// wantDecode holds what is read against what is wanted.
func wantDecode(t *testing.T, s string, h api.Head, data string) {
	t.Helper()
	if g, d, e := Decode(s); g != h || d != data || e != api.OK {
		t.Errorf("Decode(%.40q, %d bytes): %#v, %.40q, %v, want %#v, %.40q", s, len(s), g, d, e, h, data)
	}
}

// P10.1: which heads may be, at each edge of At and Opts.
func TestMay(t *testing.T) {
	ats := map[int]bool{-8: false, -1: false, 0: true, 1: false, 4: false, 7: false, 8: true, 9: false, 65520: true, 65527: false, 65528: true,
		65529: false, 65535: false, 65536: false, 65544: false, math.MinInt: false, math.MaxInt: false, math.MaxInt - 7: false, -65528: false, 1<<32 + 8: false}
	opts := map[int]bool{0: true, 1: false, 2: false, 3: false, 4: true, 5: false, 36: true, 39: false, 40: true, 41: false, 44: false, 1 << 20: false}
	for at, atMay := range ats {
		for n, optsMay := range opts {
			for _, more := range []bool{false, true} {
				h := api.Head{At: at, Opts: of(n), More: more, Hold: more, Tos: 255, ID: 65535, TTL: 255, Proto: 255, From: 1<<32 - 1, To: 1<<32 - 1}
				if is := May(h); is != (atMay && optsMay) {
					t.Errorf("At %d, Opts of %d bytes: %v", at, n, is)
				}
				if h = (api.Head{At: at, Opts: of(n)}); May(h) != (atMay && optsMay) {
					t.Errorf("At %d, Opts of %d bytes alone", at, n)
				}
			}
		}
	}
}

// P10.1: the bytes written out, field by field.
func TestEncode(t *testing.T) {
	ff := "\xff\xff\xff\xff"
	for _, c := range []struct {
		h    api.Head
		data string
		want string
	}{
		{plain, plainData, plainBytes},
		{api.Head{Hold: true, TTL: 64, Proto: api.ProtoUDP, From: 0xc0a80001, To: 0xc0a800c7}, of(95), known + of(95)},
		{api.Head{}, "", "\x45\x00\x00\x14\x00\x00\x00\x00\x00\x00\xba\xeb" + strings.Repeat("\x00", 8)},
		{api.Head{Tos: 255}, "", "\x45\xff\x00\x14\x00\x00\x00\x00\x00\x00\xb9\xec" + strings.Repeat("\x00", 8)},
		{api.Head{ID: 65535}, "", "\x45\x00\x00\x14\xff\xff\x00\x00\x00\x00\xba\xeb" + strings.Repeat("\x00", 8)},
		{api.Head{ID: 0xbaeb}, "", "\x45\x00\x00\x14\xba\xeb\x00\x00\x00\x00\x00\x00" + strings.Repeat("\x00", 8)},
		{api.Head{TTL: 255}, "", "\x45\x00\x00\x14\x00\x00\x00\x00\xff\x00\xbb\xea" + strings.Repeat("\x00", 8)},
		{api.Head{Proto: 255}, "", "\x45\x00\x00\x14\x00\x00\x00\x00\x00\xff\xb9\xec" + strings.Repeat("\x00", 8)},
		{api.Head{From: 1<<32 - 1}, "", "\x45\x00\x00\x14\x00\x00\x00\x00\x00\x00\xba\xeb" + ff + "\x00\x00\x00\x00"},
		{api.Head{To: 1<<32 - 1}, "", "\x45\x00\x00\x14\x00\x00\x00\x00\x00\x00\xba\xeb" + "\x00\x00\x00\x00" + ff},
		{api.Head{At: 8}, "a", "\x45\x00\x00\x15\x00\x00\x00\x01\x00\x00\xba\xe9" + strings.Repeat("\x00", 8) + "a"},
		{api.Head{Opts: strings.Repeat(ff, 10)}, "ab", "\x4f\x00\x00\x3e\x00\x00\x00\x00\x00\x00\xb0\xc1" + strings.Repeat("\x00", 8) + strings.Repeat(ff, 10) + "ab"},
		{api.Head{Opts: "\x00\x00\x00\x01"}, "", "\x46\x00\x00\x18\x00\x00\x00\x00\x00\x00\xb9\xe6" + strings.Repeat("\x00", 11) + "\x01"},
	} {
		if s, e := Encode(c.h, c.data); s != c.want || e != api.OK {
			t.Errorf("Encode(%#v, %q): %q, %v, want %q", c.h, c.data, s, e, c.want)
		}
	}
}

// P10.1: Hold and More, each and both, and where a part stands.
func TestEncodeParts(t *testing.T) {
	for _, c := range []struct {
		hold, more bool
		at         int
		want       string
	}{
		{false, false, 0, "\x00\x00"}, {true, false, 0, "\x40\x00"}, {false, true, 0, "\x20\x00"}, {true, true, 0, "\x60\x00"},
		{false, false, 8, "\x00\x01"}, {true, false, 16, "\x40\x02"}, {false, true, 2048, "\x21\x00"}, {true, true, 65504, "\x7f\xfc"},
	} {
		h := api.Head{Hold: c.hold, More: c.more, At: c.at}
		s := written(t, h, of(8))
		if s[6:8] != c.want {
			t.Errorf("%#v: %q", c, s[6:8])
		}
		wantDecode(t, s, h, of(8))
	}
}

// P10.1: what may be no part that others follow, and that it does not matter of a last one.
func TestEncodeMore(t *testing.T) {
	for _, at := range []int{0, 8, 1480} {
		for n, want := range map[int]api.Errno{0: api.ErrArg, 1: api.ErrArg, 4: api.ErrArg, 7: api.ErrArg, 8: api.OK, 9: api.ErrArg, 12: api.ErrArg, 15: api.ErrArg, 16: api.OK, 17: api.ErrArg} {
			wantEncode(t, api.Head{More: true, At: at}, n, want)
			wantEncode(t, api.Head{More: true, At: at, Hold: true, Opts: of(4)}, n, want)
			wantEncode(t, api.Head{At: at}, n, api.OK)
			wantEncode(t, api.Head{At: at, Hold: true, Opts: of(40)}, n, api.OK)
		}
	}
}

// P10.1: each head that may not be is refused, whatever else it has.
func TestEncodeRefusesHeads(t *testing.T) {
	for _, at := range []int{-65528, -8, -1, 1, 7, 9, 65529, 65536, math.MinInt, math.MaxInt, math.MaxInt - 7} {
		for _, more := range []bool{false, true} {
			wantEncode(t, api.Head{At: at, More: more}, 0, api.ErrArg)
			wantEncode(t, api.Head{At: at, More: more}, 8, api.ErrArg)
		}
	}
	for _, n := range []int{1, 2, 3, 5, 39, 41, 42, 43, 44, 48, 1 << 16} {
		wantEncode(t, api.Head{Opts: of(n)}, 0, api.ErrArg)
		wantEncode(t, api.Head{Opts: of(n), More: true}, 8, api.ErrArg)
	}
}

// P10.1: data and At together at the greatest packet, and one beyond.
func TestEncodeLong(t *testing.T) {
	for _, opts := range []int{0, 4, 36, 40} {
		for _, at := range []int{0, 8, 1480, 65000, 65464} {
			h := api.Head{At: at, Opts: of(opts), TTL: 1}
			n := room - opts - at
			wantEncode(t, h, n-1, api.OK)
			wantEncode(t, h, n, api.OK)
			wantEncode(t, h, n+1, api.ErrLong)
			wantEncode(t, h, n+8, api.ErrLong)
			wantEncode(t, h, 65536, api.ErrLong)
			wantEncode(t, h, 1<<20, api.ErrLong)
			h.More = true
			wantEncode(t, h, n/8*8, api.OK)
			wantEncode(t, h, n/8*8+8, api.ErrLong)
		}
	}
	for _, n := range []int{0, 1, 8} {
		wantEncode(t, api.Head{At: 65512}, n, map[int]api.Errno{0: api.OK, 1: api.OK, 8: api.ErrLong}[n])
		wantEncode(t, api.Head{At: 65520}, n, api.ErrLong)
		wantEncode(t, api.Head{At: 65528}, n, api.ErrLong)
	}
	wantEncode(t, api.Head{At: 65512}, 3, api.OK)
	wantEncode(t, api.Head{At: 65512}, 4, api.ErrLong)
	wantEncode(t, api.Head{At: 65512, Opts: of(4)}, 0, api.ErrLong)
	wantEncode(t, api.Head{At: 65528, More: true}, 8, api.ErrLong)
}

// P10.1, R2: what may not be comes ahead of what is too long.
func TestEncodeErrorsAtOnce(t *testing.T) {
	for _, h := range []api.Head{{At: -8}, {At: 1}, {At: 65529}, {At: 65536}, {Opts: of(1)}, {Opts: of(44)}, {At: math.MinInt}, {At: math.MaxInt}, {At: 4, Opts: of(3), More: true}} {
		wantEncode(t, h, room+1, api.ErrArg)
		wantEncode(t, h, room+5, api.ErrArg)
		wantEncode(t, h, 65536, api.ErrArg)
	}
	wantEncode(t, api.Head{More: true}, room+1, api.ErrArg) // 65,516 is no multiple of 8
	wantEncode(t, api.Head{More: true}, room+5, api.ErrLong)
	wantEncode(t, api.Head{More: true, At: 65528}, 0, api.ErrArg)
	wantEncode(t, api.Head{More: true, At: 65528}, 9, api.ErrArg)
}

// P10.2: what is read of which bytes, by name.
func TestDecode(t *testing.T) {
	wantDecode(t, plainBytes, plain, plainData)
	wantDecode(t, known+of(95), api.Head{Hold: true, TTL: 64, Proto: 17, From: 0xc0a80001, To: 0xc0a800c7}, of(95))
	wantDecode(t, "\x45\x00\x00\x14\x00\x00\x00\x00\x00\x00\xba\xeb"+strings.Repeat("\x00", 8), api.Head{}, "")
	all := strings.Repeat("\xff", 40)
	s := right("\x4f\xff\x00\x44\xff\xff\x60\x01\xff\xff\x00\x00"+all[:8]+all+all[:8], 60)
	wantDecode(t, s, api.Head{Tos: 255, ID: 65535, Hold: true, More: true, At: 8, TTL: 255, Proto: 255, From: 1<<32 - 1, To: 1<<32 - 1, Opts: all}, all[:8])
}

// P10.2: a checksum of 0 is read as it is written, and so is 65,535 in its place: the head is right with both.
func TestDecodeNought(t *testing.T) {
	h := api.Head{ID: 0xbaeb}
	s := written(t, h, "")
	if s[10:12] != "\x00\x00" {
		t.Fatalf("%q", s)
	}
	wantDecode(t, s, h, "")
	wantDecode(t, with(s, 10, 255, 255), h, "")
}

// P10.2: too few bytes for any head.
func TestDecodeShort(t *testing.T) {
	for n := range api.HeadSize {
		wantRefused(t, plainBytes[:n], api.ErrShort)
		wantRefused(t, strings.Repeat("\xff", n), api.ErrShort)
		wantRefused(t, strings.Repeat("\x00", n), api.ErrShort)
		wantRefused(t, known[:n], api.ErrShort)
	}
	wantRefused(t, strings.Repeat("\x00", 20), api.ErrVersion)
	s := written(t, api.Head{TTL: 9}, "")
	wantRefused(t, s[:19], api.ErrShort)
	wantDecode(t, s, api.Head{TTL: 9}, "")
}

// P10.2: each first byte: another version, a head that is too short, one that is longer than the text, or than the packet.
func TestDecodeFirstByte(t *testing.T) {
	s := written(t, api.Head{TTL: 9}, "")
	for b := range 256 {
		u := right(with(s, 0, byte(b)), 20)
		switch {
		case b>>4 != 4:
			wantRefused(t, u, api.ErrVersion)
			wantRefused(t, u+of(60), api.ErrVersion)
		case b&15 < 5:
			wantRefused(t, u, api.ErrForm)
			wantRefused(t, u+of(60), api.ErrForm)
		case b&15 > 5:
			wantRefused(t, u, api.ErrShort)
			wantRefused(t, u+of(4*(b&15)-21), api.ErrShort)
			wantRefused(t, u+of(4*(b&15)-20), api.ErrForm)
			wantRefused(t, u+of(60), api.ErrForm)
		default:
			wantDecode(t, u, api.Head{TTL: 9}, "")
		}
	}
}

// P10.2: how many bytes a packet says that it has, against those of its head, and of the text.
func TestDecodeSizes(t *testing.T) {
	for _, opts := range []int{0, 4, 40} {
		h := api.Head{TTL: 9, Opts: of(opts)}
		head := 20 + opts
		s := written(t, h, of(50))
		for n := range 1 << 16 {
			if n > head+100 && n < 65500 && n%997 != 0 {
				continue
			}
			u := right(with(s, 2, byte(n>>8), byte(n)), head)
			switch {
			case n < head:
				wantRefused(t, u, api.ErrForm)
			case n > len(s):
				wantRefused(t, u, api.ErrShort)
				wantRefused(t, u+of(n-len(s)-1), api.ErrShort)
				wantDecode(t, u+of(n-len(s)), h, of(n-head))
			default:
				wantDecode(t, u, h, of(n-head))
				wantDecode(t, u[:n], h, of(n-head))
				if n > head {
					wantRefused(t, u[:n-1], api.ErrShort)
				}
			}
		}
	}
}

// P10.2: of every packet each beginning is too short.
func TestDecodeBeginnings(t *testing.T) {
	d := drawer(3)
	for range 40 {
		h, data := d.packet()
		s := written(t, h, data)
		for n := range len(s) {
			wantRefused(t, s[:n], api.ErrShort)
		}
	}
}

// P10.2: the sum of the head counts, with its options, and that of the data does not.
func TestDecodeSum(t *testing.T) {
	s := written(t, plain, plainData)
	for at := 20; at < 24; at++ {
		wantRefused(t, with(s, at, s[at]^1), api.ErrSum)
	}
	for at := 24; at < len(s); at++ {
		u := with(s, at, s[at]^255)
		wantDecode(t, u, plain, u[24:])
	}
	for x := range 1 << 16 {
		u := with(s, 10, byte(x>>8), byte(x))
		if u == s {
			wantDecode(t, u, plain, plainData)
		} else if _, _, e := Decode(u); e != api.ErrSum {
			t.Errorf("a checksum of %d: %v", x, e)
		}
	}
}

// P10.2: a right head that may not be with its data.
func TestDecodeForm(t *testing.T) {
	form := func(parts, n int) string {
		size := 20 + n
		return right("\x45\x00"+string([]byte{byte(size >> 8), byte(size), 0, 7, byte(parts >> 8), byte(parts)})+"\x09\x11\x00\x00"+of(8)+of(n), 20)
	}
	for _, c := range []struct{ parts, n int }{
		{0x8000, 0}, {0x8001, 1}, {0xc000, 8}, {0xa000, 8}, {0xe000, 8}, {0xffff, 8}, // the bit that is nobody's
		{0x2000, 0}, {0x2001, 7}, {0x6000, 9}, {0x3000, 4}, {0x2002, 12}, // data that nothing can follow
		{0x1fff, 0}, {0x1ffe, 0}, {0x5ffd, 4}, {0x1ffd, 5}, {0x3ffd, 8}, {0x0001, room - 7}, {0x2001, room - 3}, // together too long
	} {
		wantRefused(t, form(c.parts, c.n), api.ErrForm)
		wantRefused(t, form(c.parts, c.n)+"behind", api.ErrForm)
	}
	for _, c := range []struct{ parts, n int }{
		{0x0000, 0}, {0x2000, 8}, {0x4000, 0}, {0x6000, 16}, {0x1ffd, 3}, {0x5ffd, 0}, {0x3ffc, 8}, {0x0001, room - 8}, {0x2001, room - 11}, {0x0000, room},
	} {
		h := api.Head{ID: 7, Hold: c.parts&0x4000 != 0, More: c.parts&0x2000 != 0, At: c.parts & 0x1fff * 8, TTL: 9, Proto: 17, From: 0x64646464, To: 0x64646464}
		wantDecode(t, form(c.parts, c.n), h, of(c.n))
	}
}

// P10.2: with options there is less room.
func TestDecodeRoomWithOptions(t *testing.T) {
	h := api.Head{At: 65512 - 40, Opts: strings.Repeat("\x01", 40)}
	s := written(t, h, "abc")
	wantDecode(t, s, h, "abc")
	wantRefused(t, right(with(s, 3, s[3]+1), 60)+"d", api.ErrForm)
	wantRefused(t, right(with(s, 7, s[7]+1), 60), api.ErrForm)
}

// P10.2, R2: several errors at once, each ahead of all that stand behind it in the row.
func TestDecodeErrorsAtOnce(t *testing.T) {
	bad := func(first byte, size int, rest string) string {
		return string([]byte{first, 0, byte(size >> 8), byte(size)}) + rest
	}
	zeros := strings.Repeat("\x00", 16)
	kept := "\x00\x00\x80\x00" + strings.Repeat("\x00", 12)
	for _, c := range []struct {
		s    string
		want api.Errno
	}{
		{bad(0x00, 0, zeros[:15]), api.ErrShort}, // no bytes, no version, no head
		{bad(0x6f, 65535, zeros[:15]), api.ErrShort},
		{bad(0x44, 0, zeros[:15]), api.ErrShort},
		{bad(0x00, 0, zeros), api.ErrVersion}, // and the head, the packet, the sum
		{bad(0x54, 65535, kept), api.ErrVersion},
		{bad(0x6f, 65535, kept), api.ErrVersion},
		{bad(0x3f, 0, kept), api.ErrVersion},
		{bad(0x40, 0, zeros), api.ErrForm}, // the head, and the packet, the sum
		{bad(0x44, 65535, kept), api.ErrForm},
		{bad(0x44, 20, kept), api.ErrForm},
		{bad(0x4f, 0, kept), api.ErrShort}, // no bytes for the head, and the packet is shorter
		{bad(0x46, 20, zeros), api.ErrShort},
		{bad(0x46, 65535, zeros), api.ErrShort},
		{bad(0x45, 19, kept), api.ErrForm}, // the packet is shorter than its head, and the sum
		{bad(0x45, 0, zeros), api.ErrForm},
		{bad(0x46, 23, zeros+"abcdef"), api.ErrForm},
		{bad(0x45, 21, kept), api.ErrShort}, // no bytes for the packet, and the sum
		{bad(0x45, 65535, zeros), api.ErrShort},
		{right(bad(0x45, 21, kept), 20), api.ErrShort}, // and a bit that is nobody's
		{bad(0x45, 20, kept), api.ErrSum},              // the sum, and the bit
		{bad(0x45, 20, "\x00\x00\x20\x00"+zeros[:12]), api.ErrSum},
		{bad(0x45, 20, "\x00\x00\x1f\xff"+zeros[:12]), api.ErrSum},
		{right(bad(0x45, 20, kept), 20), api.ErrForm},
	} {
		wantRefused(t, c.s, c.want)
	}
}

// plainly is what the chapter says that Decode answers, line by line, of bytes that may be anything.
func plainly(s string) api.Errno {
	if len(s) < 20 {
		return api.ErrShort
	}
	head, packet := int(s[0]%16)*4, int(s[2])*256+int(s[3])
	parts := int(s[6])*256 + int(s[7])
	n := packet - head
	if s[0]/16 != 4 {
		return api.ErrVersion
	}
	if head < 20 {
		return api.ErrForm
	}
	if len(s) < head {
		return api.ErrShort
	}
	if packet < head {
		return api.ErrForm
	}
	if len(s) < packet {
		return api.ErrShort
	}
	if is := int(s[10])*256 + int(s[11]); is%65535 != int(checked(s, head)) {
		return api.ErrSum
	}
	if parts >= 32768 || n+parts%8192*8 > 65535-head || parts&8192 != 0 && (n == 0 || n%8 != 0) {
		return api.ErrForm
	}
	return api.OK
}

// P10.2: drawn bytes, and packets with drawn changes, are read as the chapter says.
func TestDecodeOfAnything(t *testing.T) {
	d := drawer(5)
	seen := map[api.Errno]int{}
	for range 60000 {
		h, data := d.packet()
		s := written(t, h, data)
		for range d.below(4) {
			s = with(s, d.below(12), byte(d.next()))
		}
		if d.below(3) == 0 {
			s = with(s, 2, 0, byte(20+d.below(80)))
		}
		if d.below(2) == 0 {
			s = s[:d.below(len(s)+1)]
		}
		s += d.text(d.below(2) * d.below(70))
		if head := 4 * int((s + "\x00")[0]&15); head >= 20 && len(s) >= head && d.below(3) > 0 {
			s = right(s, head)
		}
		_, _, e := Decode(s)
		if want := plainly(s); e != want {
			t.Fatalf("Decode(%q): %v, want %v", s, e, want)
		}
		seen[e]++
	}
	for _, e := range []api.Errno{api.OK, api.ErrShort, api.ErrVersion, api.ErrForm, api.ErrSum} {
		if seen[e] < 100 {
			t.Errorf("%v was seen %d times", e, seen[e])
		}
	}
}

// P10.3: the bytes of options, and those that may not be.
func TestOpts(t *testing.T) {
	fill := api.Option{Kind: 1}
	for _, c := range []struct {
		l    []api.Option
		want string
		e    api.Errno
	}{
		{nil, "", api.OK},
		{[]api.Option{}, "", api.OK},
		{[]api.Option{fill}, "\x01\x00\x00\x00", api.OK},
		{[]api.Option{fill, fill, fill}, "\x01\x01\x01\x00", api.OK},
		{[]api.Option{fill, fill, fill, fill}, "\x01\x01\x01\x01", api.OK},
		{[]api.Option{fill, fill, fill, fill, fill}, "\x01\x01\x01\x01\x01\x00\x00\x00", api.OK},
		{[]api.Option{{Kind: 2}}, "\x02\x02\x00\x00", api.OK},
		{[]api.Option{{Kind: 255}}, "\xff\x02\x00\x00", api.OK},
		{[]api.Option{{Kind: 2}, {Kind: 3}}, "\x02\x02\x03\x02", api.OK},
		{[]api.Option{{Kind: 7, Data: "x"}}, "\x07\x03x\x00", api.OK},
		{[]api.Option{{Kind: 7, Data: "xy"}, fill}, "\x07\x04xy\x01\x00\x00\x00", api.OK},
		{[]api.Option{fill, {Kind: 7, Data: "xyz"}, {Kind: 8}}, "\x01\x07\x05xyz\x08\x02", api.OK},
		{[]api.Option{{Kind: 7, Data: "\x00\x00"}, fill}, "\x07\x04\x00\x00\x01\x00\x00\x00", api.OK},
		{[]api.Option{{Kind: 0}}, "", api.ErrOption},
		{[]api.Option{{Kind: 0, Data: "x"}}, "", api.ErrOption},
		{[]api.Option{{Kind: 1, Data: "x"}}, "", api.ErrOption},
		{[]api.Option{{Kind: 1, Data: of(50)}}, "", api.ErrOption},
		{[]api.Option{fill, {Kind: 0}, fill}, "", api.ErrOption},
		{[]api.Option{{Kind: 2}, {Kind: 1, Data: "\x00"}}, "", api.ErrOption},
	} {
		if s, e := Opts(c.l...); s != c.want || e != c.e {
			t.Errorf("Opts(%#v): %q, %v, want %q, %v", c.l, s, e, c.want, c.e)
		}
	}
	for k := range 256 {
		s, e := Opts(api.Option{Kind: uint8(k)})
		if k == 0 && (s != "" || e != api.ErrOption) || k == 1 && s != "\x01\x00\x00\x00" || k > 1 && s != string([]byte{byte(k), 2, 0, 0}) {
			t.Errorf("of kind %d: %q, %v", k, s, e)
		}
	}
}

// P10.3: how many bytes options may have together; one that may not be comes ahead of too many.
func TestOptsLong(t *testing.T) {
	fills := func(n int) []api.Option { return slices.Repeat([]api.Option{{Kind: 1}}, n) }
	for n := range 60 {
		s, e := Opts(fills(n)...)
		if want := strings.Repeat("\x01", n) + strings.Repeat("\x00", (4-n%4)%4); n <= 40 && (s != want || e != api.OK) || n > 40 && (s != "" || e != api.ErrLong) {
			t.Errorf("%d of one byte: %q, %v", n, s, e)
		}
		s, e = Opts(api.Option{Kind: 9, Data: of(n)})
		if n <= 38 && (s[:2] != string([]byte{9, byte(n + 2)}) || len(s) != (n+5)/4*4 || e != api.OK) || n > 38 && (s != "" || e != api.ErrLong) {
			t.Errorf("one with %d bytes of data: %q, %v", n, s, e)
		}
	}
	for _, n := range []int{39, 253, 254, 255, 256, 258, 65536, 1 << 20} { // their length may be one that a byte can't tell
		if s, e := Opts(api.Option{Kind: 9, Data: of(n)}); s != "" || e != api.ErrLong {
			t.Errorf("with %d bytes of data: %d bytes, %v", n, len(s), e)
		}
		for _, none := range []api.Option{{Kind: 0}, {Kind: 1, Data: "x"}} {
			if s, e := Opts(api.Option{Kind: 9, Data: of(n)}, none); s != "" || e != api.ErrOption {
				t.Errorf("with %d bytes of data, and %#v: %d bytes, %v", n, none, len(s), e)
			}
		}
	}
	for _, l := range [][]api.Option{
		append(fills(41), api.Option{}),
		append(fills(40), api.Option{Kind: 1, Data: "x"}),
		append([]api.Option{{Kind: 0}}, fills(60)...),
	} {
		if s, e := Opts(l...); s != "" || e != api.ErrOption {
			t.Errorf("one that may not be among %d: %q, %v", len(l), s, e)
		}
	}
	if s, e := Opts(append(fills(39), api.Option{Kind: 2})...); s != "" || e != api.ErrLong {
		t.Errorf("the last one's second byte is the 41st: %q, %v", s, e)
	}
	if s, e := Opts(append(fills(38), api.Option{Kind: 2})...); s != strings.Repeat("\x01", 38)+"\x02\x02" || e != api.OK {
		t.Errorf("the last one's second byte is the 40th: %q, %v", s, e)
	}
}

// P10.3: the options of bytes, and bytes of none.
func TestOptions(t *testing.T) {
	fill := api.Option{Kind: 1}
	for _, c := range []struct {
		s    string
		want []api.Option
		e    api.Errno
	}{
		{"", nil, api.OK},
		{"\x00", nil, api.OK},
		{"\x00\x00\x00\x00", nil, api.OK},
		{"\x00\x07\x01\x00", nil, api.OK}, // what stands behind the end does not count
		{"\x00" + strings.Repeat("\xff", 39), nil, api.OK},
		{"\x01", []api.Option{fill}, api.OK},
		{"\x01\x01\x00\x01", []api.Option{fill, fill}, api.OK},
		{"\x01\x00\x07\x09", []api.Option{fill}, api.OK},
		{"\x01\x02\x02\x01", []api.Option{fill, {Kind: 2}, fill}, api.OK}, // kind 1 has no length
		{"\x01\x01\x01\x01", []api.Option{fill, fill, fill, fill}, api.OK},
		{"\x07\x02", []api.Option{{Kind: 7}}, api.OK},
		{"\xff\x02\x00\x00", []api.Option{{Kind: 255}}, api.OK},
		{"\x07\x04xy", []api.Option{{Kind: 7, Data: "xy"}}, api.OK}, // it ends at the end
		{"\x07\x04xy\x01\x00\x00\x00", []api.Option{{Kind: 7, Data: "xy"}, fill}, api.OK},
		{"\x07\x05\x00\x00\x00\x08\x02", []api.Option{{Kind: 7, Data: "\x00\x00\x00"}, {Kind: 8}}, api.OK}, // a byte 0 within is data
		{"\x07\x03\x08\x09\x02", []api.Option{{Kind: 7, Data: "\x08"}, {Kind: 9}}, api.OK},
		{"\x09\x28" + of(38), []api.Option{{Kind: 9, Data: of(38)}}, api.OK},
		{strings.Repeat("\x01", 40), slices.Repeat([]api.Option{fill}, 40), api.OK},
		{"\x07", nil, api.ErrOption}, // its length is wanting
		{"\x01\x01\x07", nil, api.ErrOption},
		{strings.Repeat("\x01", 39) + "\x02", nil, api.ErrOption},
		{"\x07\x04xy\x08", nil, api.ErrOption},
		{"\x07\x00", nil, api.ErrOption}, // it is below 2
		{"\x07\x01", nil, api.ErrOption},
		{"\x07\x00xy", nil, api.ErrOption},
		{"\x07\x01xy", nil, api.ErrOption},
		{"\x01\x07\x01\x00", nil, api.ErrOption},
		{"\x07\x03", nil, api.ErrOption}, // it reaches behind the end
		{"\x07\x05ab", nil, api.ErrOption},
		{"\x07\xffab", nil, api.ErrOption},
		{"\x07\x04xy\x08\x05xy", nil, api.ErrOption},
		{"\x09\x29" + of(38), nil, api.ErrOption},
		{strings.Repeat("\x01", 41), nil, api.ErrLong},
		{strings.Repeat("\x00", 41), nil, api.ErrLong},
		{"\x07\x00" + of(39), nil, api.ErrLong}, // too long, and no options
		{"\x00" + of(1<<20), nil, api.ErrLong},
	} {
		if l, e := Options(c.s); !slices.Equal(l, c.want) || e != c.e {
			t.Errorf("Options(%q): %#v, %v, want %#v, %v", c.s, l, e, c.want, c.e)
		}
	}
}

// P10.3: of each kind what each length comes to.
func TestOptionsLengths(t *testing.T) {
	for k := 2; k < 256; k++ {
		for n := range 256 {
			s := string([]byte{byte(k), byte(n)}) + strings.Repeat("\x01", 18)
			l, e := Options(s)
			if n < 2 || n > 20 {
				if l != nil || e != api.ErrOption {
					t.Errorf("kind %d, length %d: %#v, %v", k, n, l, e)
				}
			} else if len(l) != 21-n || l[0] != (api.Option{Kind: uint8(k), Data: s[2:n]}) || e != api.OK {
				t.Errorf("kind %d, length %d: %#v, %v", k, n, l, e)
			}
		}
	}
}

// P10.3, P10.5: options that were written are read, also as a head's.
func TestOptionsAreRead(t *testing.T) {
	d := drawer(7)
	whole := 0
	for range 3000 {
		var l []api.Option
		for range d.below(8) {
			o := api.Option{Kind: uint8(1 + d.below(255)), Data: d.text(d.below(12))}
			if d.below(3) == 0 {
				o = api.Option{Kind: 1}
			} else if o.Kind == 1 {
				o.Data = ""
			}
			l = append(l, o)
		}
		s, e := Opts(l...)
		if e == api.ErrLong {
			continue
		}
		whole++
		got, f := Options(s)
		if e != api.OK || f != api.OK || !slices.Equal(got, l) {
			t.Fatalf("%#v: %q, %v, %#v, %v", l, s, e, got, f)
		}
		h := api.Head{TTL: 3, Opts: s}
		wantDecode(t, written(t, h, "ab")+"behind", h, "ab")
	}
	if whole < 1000 {
		t.Errorf("only %d rows were not too long", whole)
	}
}

// P10.3: whatever stands there, what is read is written again as it was, up to the byte 0 that ends it.
func TestOptionsOfAnything(t *testing.T) {
	d := drawer(8)
	for range 30000 {
		b := []byte(d.text(d.below(46)))
		for i := range b {
			b[i] %= byte(1 + d.below(9))
		}
		l, e := Options(string(b))
		if e != api.OK {
			if l != nil || (e == api.ErrLong) != (len(b) > 40) {
				t.Fatalf("Options(%q): %#v, %v", b, l, e)
			}
			continue
		}
		s, f := Opts(l...)
		n := 0
		for _, o := range l {
			n++
			if o.Kind != 1 {
				n += 1 + len(o.Data)
			}
		}
		if f != api.OK || n > len(b) || s[:n] != string(b[:n]) || strings.Trim(s[n:], "\x00") != "" || n < len(b) && b[n] != 0 {
			t.Fatalf("Options(%q): %#v, written again %q, %v", b, l, s, f)
		}
	}
}

// P10.4: one less of each TTL but 0 and 1.
func TestPass(t *testing.T) {
	for ttl := range 256 {
		h := plain
		h.TTL = uint8(ttl)
		s := written(t, h, plainData)
		h.TTL--
		for _, behind := range []string{"", "\x00", "behind", s} {
			p, e := Pass(s + behind)
			if ttl < 2 {
				if p != "" || e != api.ErrOver {
					t.Errorf("TTL %d: %q, %v", ttl, p, e)
				}
			} else if p != written(t, h, plainData) || e != api.OK {
				t.Errorf("TTL %d: %q, %v", ttl, p, e)
			}
		}
	}
}

// P10.4: the bytes of one that is passed on, written out.
func TestPassKnown(t *testing.T) {
	p, e := Pass(known + of(95) + "behind")
	if want := with(known, 8, 63, 17, 0xb9, 0x61) + of(95); p != want || e != api.OK {
		t.Errorf("%q, %v", p, e)
	}
}

// P10.4, R2: what Decode refuses is refused by its error, also of one that is over.
func TestPassRefuses(t *testing.T) {
	for _, ttl := range []uint8{0, 1, 2, 255} {
		s := written(t, api.Head{TTL: ttl}, "ab")
		wantRefused(t, s[:19], api.ErrShort)
		wantRefused(t, s[:21], api.ErrShort)
		wantRefused(t, with(s, 0, 0x65), api.ErrVersion)
		wantRefused(t, with(s, 0, 0x44), api.ErrForm)
		wantRefused(t, with(s, 4, 1), api.ErrSum)
		wantRefused(t, right(with(s, 6, 0x80), 20), api.ErrForm)
		wantRefused(t, right(with(s, 6, 0x20), 20), api.ErrForm)
	}
}

// P10.4: checksums that turn over, among all that there are: behind 65,279 comes what is above 0 again.
func TestPassTurnsOver(t *testing.T) {
	for id := range 1 << 16 {
		s := written(t, api.Head{ID: uint16(id), TTL: 64}, "")
		p, e := Pass(s)
		if e != api.OK || p != written(t, api.Head{ID: uint16(id), TTL: 63}, "") {
			t.Fatalf("ID %d: %q, %q, %v", id, s, p, e)
		}
	}
	s := written(t, api.Head{ID: 0xbaeb - 64<<8, TTL: 64}, "")
	if s[10:12] != "\x00\x00" {
		t.Fatalf("%q", s)
	}
	for _, c := range []string{s, with(s, 10, 255, 255)} {
		if p, e := Pass(c); p != with(s, 8, 63, 0, 1, 0) || e != api.OK {
			t.Errorf("%q: %q, %v", c, p, e)
		}
	}
}

// P10.5: a packet passed on till it is over, against one that is written anew with each TTL; nothing but TTL and checksum is another one.
func TestPassedTillItIsOver(t *testing.T) {
	d := drawer(9)
	for range 60 {
		h, data := d.packet()
		h.TTL = 255
		s := written(t, h, data)
		for h.TTL > 1 {
			p, e := Pass(s + d.text(d.below(5)))
			h.TTL--
			if e != api.OK || p != written(t, h, data) {
				t.Fatalf("%#v: %q, %v", h, p, e)
			}
			if p[:8] != s[:8] || p[8] != s[8]-1 || p[9] != s[9] || p[12:] != s[12:] {
				t.Fatalf("%q became %q", s, p)
			}
			s = p
		}
		if p, e := Pass(s); p != "" || e != api.ErrOver {
			t.Fatalf("%q, %v", p, e)
		}
	}
}

// P10.5, T6: what was written is read, whatever stands behind it.
func TestWrittenIsRead(t *testing.T) {
	d := drawer(10)
	for i := range 2000 {
		h, data := d.packet()
		s := written(t, h, data)
		for _, behind := range []string{"", "\x00", "\xff", d.text(i % 50), s} {
			wantDecode(t, s+behind, h, data)
		}
	}
	for _, opts := range []int{0, 40} {
		h := api.Head{TTL: 1, Opts: of(opts)}
		data := d.text(room - opts)
		wantDecode(t, written(t, h, data)+"behind", h, data)
	}
}

// P10.5, T6: what is read is written as it was, but what stood behind.
func TestReadIsWritten(t *testing.T) {
	d := drawer(11)
	for range 2000 {
		h, data := d.packet()
		s := written(t, h, data)
		s = right(with(s, 1, byte(d.next()), s[2], s[3], byte(d.next()), byte(d.next())), 20+len(h.Opts))
		g, got, e := Decode(s + d.text(d.below(30)))
		if u, f := Encode(g, got); u != s || e != api.OK || f != api.OK {
			t.Fatalf("%q was read, %q is written, %v, %v", s, u, e, f)
		}
	}
}

// P10.5: a head in which a byte is another one is told, and by which error.
func TestAnotherByteIsTold(t *testing.T) {
	for _, c := range []struct {
		h    api.Head
		data string
	}{{plain, plainData}, {api.Head{TTL: 64, Proto: api.ProtoTCP}, ""}, {api.Head{TTL: 64, More: true, Opts: strings.Repeat("\x01", 40)}, of(72)}, {api.Head{ID: 0xbaeb}, of(3)}} {
		s := written(t, c.h, c.data)
		for at := range 20 + len(c.h.Opts) {
			for b := range 256 {
				u := with(s, at, byte(b))
				if u == s {
					continue
				}
				want := plainly(u)
				if at > 3 || at == 1 {
					want = api.ErrSum
				}
				if want == api.OK {
					t.Fatalf("byte %d of %q is %d, and the head is right", at, s, b)
				}
				wantRefused(t, u, want)
			}
		}
	}
}

// P10.5: of drawn packets as well; only a first byte that says where another head ends can be right by chance.
func TestAnotherByteOfAny(t *testing.T) {
	d := drawer(12)
	for range 20000 {
		h, data := d.packet()
		s := written(t, h, data)
		at := d.below(20 + len(h.Opts))
		u := with(s, at, s[at]^byte(1+d.below(255)))
		if _, _, e := Decode(u + data); e == api.OK && at != 0 {
			t.Fatalf("byte %d of %q became another one: %q", at, s, u)
		}
	}
}

// P10.5: two packets that may be, and that differ in the first byte alone: each is read as it was written, so the one can't be told from the other with a byte changed.
func TestFirstByteByChance(t *testing.T) {
	a, b := api.Head{TTL: 64, Opts: "\xfe\xff\x00\x00"}, api.Head{TTL: 64}
	s, u := written(t, a, "ab"), written(t, b, a.Opts+"ab")
	if s[0] != 0x46 || with(s, 0, 0x45) != u {
		t.Errorf("%q, %q", s, u)
	}
	wantDecode(t, s, a, "ab")
	wantDecode(t, u, b, a.Opts+"ab")
}

// The chapter's examples, row by row.
func TestExamples(t *testing.T) {
	s, e := Encode(api.Head{TTL: 64, Proto: api.ProtoUDP}, "ab")
	if len(s) != 22 || s[0] != 69 || s[1] != 0 || e != api.OK {
		t.Errorf("%q, %v", s, e)
	}
	if o, e := Opts(api.Option{Kind: 7, Data: "xy"}, api.Option{Kind: 1}); o != "\x07\x04xy\x01\x00\x00\x00" || e != api.OK {
		t.Errorf("%q, %v", o, e)
	}
	if p, e := Pass(written(t, api.Head{TTL: 1}, "")); p != "" || e != api.ErrOver {
		t.Errorf("%q, %v", p, e)
	}
}

// R5: answers are memory of their own, and arguments are as they were.
func TestAnswersAreNewMemory(t *testing.T) {
	shares := func(a, b string) bool {
		from, to := uintptr(unsafe.Pointer(unsafe.StringData(a))), uintptr(unsafe.Pointer(unsafe.StringData(b)))
		return a != "" && from >= to && from < to+uintptr(len(b))
	}
	s := written(t, plain, plainData)
	h, data, _ := Decode(s)
	if shares(h.Opts, s) || shares(data, s) {
		t.Error("what is read is memory of what it was read from")
	}
	if p, _ := Pass(s); shares(p, s) {
		t.Error("what is passed on is memory of what came")
	}
	l := []api.Option{{Kind: 7, Data: "xy"}, {Kind: 1}}
	kept := slices.Clone(l)
	o, _ := Opts(l...)
	got, _ := Options(o)
	if shares(got[0].Data, o) || !slices.Equal(l, kept) {
		t.Error("options are memory of their bytes, or were changed")
	}
	again, _ := Options(o)
	if &got[0] == &again[0] {
		t.Error("two answers are one memory")
	}
}

// R7: the layer's errors have the layer's numbers, and tell them.
func TestErrorsTellTheirNumbers(t *testing.T) {
	_, _, one := Decode(strings.Repeat("\x00", 20))
	_, _, two := Decode(with(plainBytes, 4, 0))
	_, three := Options("\x07")
	for i, e := range []api.Errno{one, two, three} {
		var err error = e
		if int(e) != 100+i || err.Error() != "error 10"+string(rune('0'+i)) {
			t.Error(int(e), err.Error())
		}
	}
}
