package frag

import (
	"math"
	"slices"
	"strings"
	"testing"
	"unsafe"

	"stevedore/api"
	"stevedore/ip4"
)

// plain is a head no two bytes of whose fields are alike, and of which one option is for all parts.
var plain = api.Head{Tos: 0x11, ID: 0x2233, At: 0x123 * 8, TTL: 0x77, Proto: 0x88, From: 0x99aabbcc, To: 0xddeeff10, Opts: "\x07\x04xy\x83\x03\x05\x01"}

// Options of 8 bytes each: none of which is for all parts, of which half are, of which all are.
const (
	firstOpts = "\x07\x08firstX"
	halfOpts  = "\x07\x04ab\x84\x04cd"
	allOpts   = "\x82\x08allXyz"
)

// drawer makes numbers that look like chance and are the same each time.
type drawer uint64

func (d *drawer) next() uint64 {
	*d = *d*6364136223846793005 + 1442695040888963407
	return uint64(*d >> 24)
}

func (d *drawer) below(n int) int { return int(d.next() >> 8 % uint64(n)) }

func (d *drawer) text(n int) string {
	b := make([]byte, n)
	for i := range b {
		b[i] = byte(d.next())
	}
	return string(b)
}

// opts are options' bytes, of options that may be, and with anything behind their end.
func (d *drawer) opts() string {
	n := 4 * d.below(11)
	s := ""
	for len(s) < n && d.below(8) > 0 {
		kind, size := byte(1+d.below(255)), 2+d.below(6)
		switch {
		case d.below(4) == 0 || size > n-len(s):
			s += "\x01"
		case kind > 1:
			s += string([]byte{kind, byte(size)}) + d.text(size-2)
		}
	}
	if len(s) < n {
		s += "\x00" + d.text(n-len(s)-1)
	}
	return s
}

// packet is a head with data that may be together, and that are not to be held.
func (d *drawer) packet(most int) (api.Head, string) {
	h := api.Head{
		Tos: uint8(d.next()), ID: uint16(d.next()), More: d.below(2) == 0, At: 8 * d.below(7000) * d.below(2),
		TTL: uint8(d.next()), Proto: uint8(d.next()), From: uint32(d.next()), To: uint32(d.next()), Opts: d.opts(),
	}
	n := d.below(most)
	if h.More {
		n = 8 + n/8*8
	}
	return h, d.text(n)
}

// of are n bytes that are unlike wherever they are taken from, as far as a test can see it.
func of(n int) string {
	b := make([]byte, n)
	for i := range b {
		b[i] = byte(i>>8 ^ i*7)
	}
	return string(b)
}

// keptBy is what is kept of options that are some, byte by byte.
func keptBy(opts string) string {
	out := ""
	for i := 0; i < len(opts) && opts[i] != 0; {
		n := 1
		if opts[i] != 1 {
			n = int(opts[i+1])
		}
		if opts[i] >= 128 {
			out += opts[i : i+n]
		}
		i += n
	}
	for len(out)%4 != 0 {
		out += "\x00"
	}
	return out
}

// piece is what a part has of its own: where it stands, how many bytes, whether one comes behind it, which options.
type piece struct {
	at, n int
	more  bool
	opts  string
}

// pieces are those of a packet that is cut. They are counted without cutting anything: the first one, as many like each other as it takes, the last one.
func pieces(h api.Head, n, room int) []piece {
	first := room - 20 - len(h.Opts)
	if n <= first {
		return []piece{{h.At, n, h.More, h.Opts}}
	}
	kept := keptBy(h.Opts)
	most := room - 20 - len(kept)
	whole, each := first-first%8, most-most%8
	l := []piece{{h.At, whole, true, h.Opts}}
	like := max(0, (n-whole-most+each-1)/each)
	for i := range like {
		l = append(l, piece{h.At + whole + i*each, each, true, kept})
	}
	return append(l, piece{h.At + whole + like*each, n - whole - like*each, h.More, kept})
}

// written is what ip4.Encode makes of what may be.
func written(t *testing.T, h api.Head, data string) string {
	t.Helper()
	s, e := ip4.Encode(h, data)
	if e != api.OK {
		t.Fatalf("Encode(%+v, %d bytes): %v", h, len(data), e)
	}
	return s
}

// read is the head and the data of a part, which must have no more bytes than these.
func read(t *testing.T, s string) (api.Head, string) {
	t.Helper()
	h, data, e := ip4.Decode(s)
	if e != api.OK || len(s) != 20+len(h.Opts)+len(data) {
		t.Fatalf("part %.60q, %d bytes: %v", s, len(s), e)
	}
	return h, data
}

// wantKept holds what is kept of options against what is wanted.
func wantKept(t *testing.T, opts, want string) {
	t.Helper()
	if is := Kept(opts); is != want {
		t.Errorf("Kept(%q): %q, want %q", opts, is, want)
	}
}

// wantCut holds a packet's parts against these, byte by byte.
func wantCut(t *testing.T, h api.Head, data string, room int, want ...piece) {
	t.Helper()
	l, e := Cut(h, data, room)
	if e != api.OK || len(l) != len(want) {
		t.Errorf("Cut(%+v, %d bytes, %d): %d parts, %v, want %d", h, len(data), room, len(l), e, len(want))
		return
	}
	at := 0
	for i, p := range want {
		part := h
		part.At, part.More, part.Opts = p.at, p.more, p.opts
		if s := written(t, part, data[at:at+p.n]); l[i] != s {
			t.Errorf("Cut(%+v, %d bytes, %d): part %d is %.60q, want %.60q", h, len(data), room, i, l[i], s)
		}
		at += p.n
	}
	if at != len(data) {
		t.Errorf("%d bytes are wanted of %d", at, len(data))
	}
}

// wantRefused holds an error of Cut, and that there is nothing beside it, against what is wanted.
func wantRefused(t *testing.T, h api.Head, data string, room int, want api.Errno) {
	t.Helper()
	if l, e := Cut(h, data, room); len(l) != 0 || e != want {
		t.Errorf("Cut(%+v, %d bytes, %d): %d parts, %v, want %v", h, len(data), room, len(l), e, want)
	}
}

// wantFollows holds what P12.3 says of parts, as they are read, against the packet that they are of.
func wantFollows(t *testing.T, h api.Head, data string, room int, l []string) {
	t.Helper()
	at := 0
	for i, s := range l {
		part, text := read(t, s)
		want := h
		want.At += at
		if i > 0 {
			want.Opts = Kept(h.Opts)
		}
		if i < len(l)-1 {
			want.More = true
		}
		if part != want {
			t.Errorf("part %d is %+v, want %+v", i, part, want)
		}
		if len(s) > room {
			t.Errorf("part %d has %d bytes, room %d", i, len(s), room)
		}
		if len(text)%8 != 0 && i < len(l)-1 {
			t.Errorf("part %d has %d bytes of data", i, len(text))
		}
		if text == "" && len(data) > 0 {
			t.Errorf("part %d is empty", i)
		}
		if !strings.HasPrefix(data[at:], text) {
			t.Errorf("part %d has %.60q, want %.60q", i, text, data[at:])
		}
		at += len(text)
	}
	if at != len(data) {
		t.Errorf("the parts have %d bytes of %d", at, len(data))
	}
}

// cutAgain are the parts of parts, in order.
func cutAgain(t *testing.T, l []string, room int) []string {
	t.Helper()
	var out []string
	for _, s := range l {
		h, data := read(t, s)
		again, e := Cut(h, data, room)
		if e != api.OK {
			t.Fatalf("Cut(%+v, %d bytes, %d) of a part: %v", h, len(data), room, e)
		}
		out = append(out, again...)
	}
	return out
}

// The chapter's example, its bytes written out.
func TestExample(t *testing.T) {
	x := strings.Repeat("x", 20)
	l, e := Cut(api.Head{}, x, 36)
	want := []string{
		"\x45\x00\x00\x24\x00\x00\x20\x00\x00\x00\x9a\xdb\x00\x00\x00\x00\x00\x00\x00\x00" + x[:16],
		"\x45\x00\x00\x18\x00\x00\x00\x02\x00\x00\xba\xe5\x00\x00\x00\x00\x00\x00\x00\x00" + x[16:],
	}
	if !slices.Equal(l, want) || e != api.OK {
		t.Errorf("%q, %v, want %q", l, e, want)
	}
}

// P12.2: three parts of a head whose fields are all unlike, their bytes written out.
func TestCutBytes(t *testing.T) {
	data := of(51)
	l, e := Cut(plain, data, 44)
	want := []string{
		"\x47\x11\x00\x2c\x22\x33\x21\x23\x77\x88\xc3\xea\x99\xaa\xbb\xcc\xdd\xee\xff\x10\x07\x04\x78\x79\x83\x03\x05\x01" + data[:16],
		"\x46\x11\x00\x28\x22\x33\x21\x25\x77\x88\x44\x6b\x99\xaa\xbb\xcc\xdd\xee\xff\x10\x83\x03\x05\x00" + data[16:32],
		"\x46\x11\x00\x2b\x22\x33\x01\x27\x77\x88\x64\x66\x99\xaa\xbb\xcc\xdd\xee\xff\x10\x83\x03\x05\x00" + data[32:],
	}
	if !slices.Equal(l, want) || e != api.OK {
		t.Errorf("%q, %v, want %q", l, e, want)
	}
}

// P12.1: an option of each kind, alone and between two that are kept.
func TestKeptKinds(t *testing.T) {
	for kind := 2; kind <= 255; kind++ {
		o := string([]byte{byte(kind)}) + "\x04ab"
		empty := string([]byte{byte(kind)}) + "\x02"
		if kind < 128 {
			wantKept(t, o, "")
			wantKept(t, empty, "")
			wantKept(t, "\x80\x02"+o+"\xff\x02", "\x80\x02\xff\x02")
			continue
		}
		wantKept(t, o, o)
		wantKept(t, empty, empty+"\x00\x00")
		wantKept(t, "\x80\x02"+o+"\xff\x02", "\x80\x02"+o+"\xff\x02")
	}
	// Kinds 0 and 1 are one byte alone; behind the first one of kind 0 there are no options.
	wantKept(t, "", "")
	wantKept(t, "\x00", "")
	wantKept(t, "\x00\x00\x00\x00", "")
	wantKept(t, "\x01", "")
	wantKept(t, "\x01\x01\x01\x01", "")
	wantKept(t, "\x80\x02\x01\xff\x02", "\x80\x02\xff\x02")
	wantKept(t, "\x80\x02\x00\xff\x02", "\x80\x02\x00\x00")
	wantKept(t, "\x00\xff\x04ab", "")
	wantKept(t, "\x01\x00\xff\x04ab", "")
}

// P12.1: several, of which some are kept: in order, without what was between them, and filled up anew.
func TestKeptOfSeveral(t *testing.T) {
	for _, c := range []struct{ opts, want string }{
		{"\x02\x02", ""},
		{"\x7f\x02", ""},
		{"\x80\x02", "\x80\x02\x00\x00"},
		{"\xff\x02", "\xff\x02\x00\x00"},
		{"\x80\x03a", "\x80\x03a\x00"},
		{"\x80\x05abc", "\x80\x05abc\x00\x00\x00"},
		{"\x01\x01\x01\x80\x03a", "\x80\x03a\x00"},
		{"\x7f\x04ab\x80\x04cd\x7f\x04ef\xff\x04gh", "\x80\x04cd\xff\x04gh"},
		{"\x80\x04cd\x7f\x04ab\xff\x04gh\x02\x02\x01\x01", "\x80\x04cd\xff\x04gh"},
		{"\x02\x03a\x03\x03b\x7f\x02", ""},
		{"\xff\x03a\xfe\x03b\xfd\x03c\x80\x03d", "\xff\x03a\xfe\x03b\xfd\x03c\x80\x03d"},
		{"\x82\x02\x82\x02\x82\x02", "\x82\x02\x82\x02\x82\x02\x00\x00"},
		{"\x83\x03a\x01\x83\x03a\x01", "\x83\x03a\x83\x03a\x00\x00"},
		{"\x07\x04\xff\xff\x83\x04\x01\x00\x00\x80\x02\xff", "\x83\x04\x01\x00"},
		{"\x83\x04\x00\x00\x01\xc0\x03\x00", "\x83\x04\x00\x00\xc0\x03\x00\x00"},
		{firstOpts, ""},
		{halfOpts, "\x84\x04cd"},
		{allOpts, allOpts},
		{plain.Opts, "\x83\x03\x05\x00"},
	} {
		wantKept(t, c.opts, c.want)
	}
}

// P12.1: nothing is kept of options that are none, by each way to tell that, though there is one ahead that would be kept; what stands behind a byte 0 does not count.
func TestKeptOfNone(t *testing.T) {
	for _, fault := range []string{
		"\x83", "\x07", "\xff", "\x02", // a length is wanting
		"\x83\x00", "\x83\x01", "\x07\x00", "\x07\x01", "\x83\x00ab", "\x83\x01ab", "\xff\x00\x00\x00", // .. is below 2
		"\x83\x03", "\x83\x04a", "\x83\x05ab", "\x07\x03", "\x07\x05ab", "\x83\xff", "\x83\xffabcd", "\x83\x80ab", // .. reaches behind the end
	} {
		wantKept(t, fault, "")
		for _, ahead := range []string{"\x80\x04ab", "\x80\x02", "\x01", "\x07\x04ab\x80\x04cd", "\x01\x01\xff\x02"} {
			wantKept(t, ahead+fault, "")
		}
		wantKept(t, "\x80\x04ab\x00"+fault, "\x80\x04ab")
		wantKept(t, "\x00"+fault, "")
	}
}

// P12.1: the most bytes that options may have, and one more.
func TestKeptLong(t *testing.T) {
	long := "\x80\x28" + of(38)
	wantKept(t, long, long)
	wantKept(t, "\x80\x27"+of(37)+"\x01", "\x80\x27"+of(37)+"\x00")
	wantKept(t, strings.Repeat("\x80\x02", 20), strings.Repeat("\x80\x02", 20))
	wantKept(t, strings.Repeat("\x80\x03x", 13)+"\x01", strings.Repeat("\x80\x03x", 13)+"\x00")
	wantKept(t, "\x80\x04ab"+strings.Repeat("\x01", 36), "\x80\x04ab")
	wantKept(t, "\x80\x04ab"+strings.Repeat("\x00", 36), "\x80\x04ab")
	for _, opts := range []string{
		long + "\x01", long + "\x00", "\x80\x29" + of(39), "\x80\x04ab" + strings.Repeat("\x01", 37), "\x80\x04ab" + strings.Repeat("\x00", 37),
		strings.Repeat("\x80\x02", 21), strings.Repeat("\x80\x02", 1000), "\x80\x04ab" + strings.Repeat("\x00", 1<<20),
	} {
		wantKept(t, opts, "")
	}
}

// P12.1, P12.3: what is kept of what is kept is just that.
func TestKeptOfKept(t *testing.T) {
	d := drawer(121)
	l := []string{"", "\x01", "\x80\x02", "\x80\x03a\x01\x81\x02\x07\x02", "\x80\x28" + of(38), strings.Repeat("\xff\x02", 20), firstOpts, halfOpts, allOpts}
	for range 2000 {
		l = append(l, d.opts())
	}
	for _, opts := range l {
		kept := Kept(opts)
		wantKept(t, opts, keptBy(opts))
		wantKept(t, kept, kept)
		if len(kept)%4 != 0 || len(kept) > (len(opts)+3)/4*4 {
			t.Errorf("Kept(%q): %d bytes", opts, len(kept))
		}
	}
}

// P12.1, R1: whatever bytes there are, it is what is kept of them, or nothing.
func TestKeptOfAnything(t *testing.T) {
	d := drawer(1211)
	for range 20000 {
		b := []byte(d.text(d.below(44)))
		for i := range b {
			if d.below(2) == 0 {
				b[i] = []byte{0, 1, 2, 3, 4, 127, 128, 255}[d.below(8)]
			}
		}
		opts := string(b)
		if _, e := ip4.Options(opts); e != api.OK {
			wantKept(t, opts, "")
		} else {
			wantKept(t, opts, keptBy(opts))
		}
	}
}

// P12.2: a head that may not be, or not with that data, in whatever room, whether it is to be held or not.
func TestCutRefusesHeads(t *testing.T) {
	for _, room := range []int{math.MinInt, -1, 0, 19, 20, 27, 28, 36, 1500, math.MaxInt} {
		for _, hold := range []bool{false, true} {
			for _, at := range []int{math.MinInt, -8, -1, 1, 4, 7, 9, 65527, 65529, 65536, 1<<32 + 8, math.MaxInt, math.MaxInt - 7} {
				wantRefused(t, api.Head{At: at, Hold: hold}, of(16), room, api.ErrArg)
			}
			for _, n := range []int{1, 2, 3, 5, 39, 41, 44, 1 << 20} {
				wantRefused(t, api.Head{Opts: strings.Repeat("\x01", n), Hold: hold}, of(16), room, api.ErrArg)
			}
			for _, n := range []int{0, 1, 7, 9, 15, 17, 63, 65, 65515} {
				wantRefused(t, api.Head{More: true, Hold: hold}, of(n), room, api.ErrArg)
			}
		}
	}
}

// P12.2: data of one byte too long, without and with options, at 0 and further; just as many are cut.
func TestCutLong(t *testing.T) {
	for _, c := range []struct {
		h    api.Head
		most int
	}{
		{api.Head{}, 65515}, {api.Head{Opts: allOpts}, 65507}, {api.Head{Opts: strings.Repeat("\x01", 40)}, 65475},
		{api.Head{At: 8}, 65507}, {api.Head{At: 65504}, 11}, {api.Head{At: 65504, Opts: allOpts}, 3}, {api.Head{At: 65512}, 3}, {api.Head{At: 65472, Opts: strings.Repeat("\x01", 40)}, 3},
	} {
		for _, room := range []int{math.MinInt, 0, 28, 36, 68, 1500, 65535, 65536, math.MaxInt} {
			wantRefused(t, c.h, of(c.most+1), room, api.ErrLong)
			held := c.h
			held.Hold = true
			wantRefused(t, held, of(c.most+1), room, api.ErrLong)
		}
		for _, room := range []int{68, 1500, math.MaxInt} {
			wantCut(t, c.h, of(c.most), room, pieces(c.h, c.most, room)...)
		}
	}
	// The greatest part with one behind it, and one that would be too long.
	wantCut(t, api.Head{More: true}, of(65512), math.MaxInt, piece{0, 65512, true, ""})
	wantRefused(t, api.Head{More: true}, of(65520), math.MaxInt, api.ErrLong)
	wantRefused(t, api.Head{At: 65520}, "", math.MaxInt, api.ErrLong)
	wantRefused(t, api.Head{At: 65528}, "", 0, api.ErrLong)
	wantRefused(t, api.Head{}, of(1<<20), math.MaxInt, api.ErrLong)
}

// P12.2: a packet of just room bytes is alone, to be held or not; one of one byte more is cut, or is not.
func TestCutThatFits(t *testing.T) {
	for _, opts := range []string{"", firstOpts, halfOpts, allOpts} {
		for _, n := range []int{9, 15, 16, 17, 100, 1480} {
			for _, at := range []int{0, 8, 2400} {
				h := api.Head{ID: 7, TTL: 9, At: at, Opts: opts}
				held := h
				held.Hold = true
				size := 20 + len(opts) + n
				for _, room := range []int{size, size + 1, size + 8, 65535, 1 << 40, math.MaxInt} {
					wantCut(t, h, of(n), room, piece{at, n, false, opts})
					wantCut(t, held, of(n), room, piece{at, n, false, opts})
				}
				wantRefused(t, held, of(n), size-1, api.ErrLong)
				l, e := Cut(h, of(n), size-1)
				if e != api.OK || len(l) != 2 {
					t.Errorf("%d bytes, of %d options' bytes, for one less: %d parts, %v", n, len(opts), len(l), e)
				}
				wantFollows(t, h, of(n), size-1, l)
			}
		}
	}
}

// P12.2: what is to be held is not cut, however little room is wanting, and fits with each room that is enough.
func TestCutHold(t *testing.T) {
	h := plain
	h.Hold = true
	size := 28 + 100
	for _, room := range []int{math.MinInt, -1, 0, 1, 27, 28, 35, 36, 37, 100, size - 8, size - 1} {
		wantRefused(t, h, of(100), room, api.ErrLong)
		more := h
		more.More = true
		wantRefused(t, more, of(104), room, api.ErrLong)
	}
	wantCut(t, h, of(100), size, piece{h.At, 100, false, h.Opts})
	h.More = true
	wantRefused(t, h, of(104), size+3, api.ErrLong)
	wantCut(t, h, of(104), size+4, piece{h.At, 104, true, h.Opts})
	for room := range 20 {
		wantRefused(t, api.Head{Hold: true}, "", room, api.ErrLong)
	}
	wantCut(t, api.Head{Hold: true}, "", 20, piece{})
}

// P12.2: a room of less than 8 bytes more than HeadSize and Opts, though parts behind the first one would have enough; of just 8.
func TestCutRoom(t *testing.T) {
	for _, opts := range []string{"", "\x01\x01\x01\x01", firstOpts, halfOpts, allOpts, strings.Repeat("\x01", 40), "\x80\x28" + of(38)} {
		h := api.Head{ID: 1, Opts: opts}
		least := 20 + len(opts) + 8
		for _, n := range []int{9, 16, 17, 100} {
			for _, room := range []int{math.MinInt, math.MinInt + 20, -1 << 32, -28, -8, -1, 0, 1, 8, 19, 20, 21, 27, 20 + len(opts) - 1, 20 + len(opts), least - 2, least - 1} {
				if room < least {
					wantRefused(t, h, of(n), room, api.ErrFull)
				}
			}
			for room := least; room < least+9; room++ {
				wantCut(t, h, of(n), room, pieces(h, n, room)...)
			}
		}
	}
	wantCut(t, api.Head{}, of(24), 28, piece{0, 8, true, ""}, piece{8, 8, true, ""}, piece{16, 8, false, ""})
	wantCut(t, api.Head{Opts: firstOpts}, of(24), 36, piece{0, 8, true, firstOpts}, piece{8, 16, false, ""})
	// Less data than a unit is cut by none.
	for n := range 9 {
		wantRefused(t, api.Head{}, of(n), 19+n, api.ErrFull)
		wantCut(t, api.Head{}, of(n), 20+n, piece{0, n, false, ""})
	}
	wantRefused(t, api.Head{}, "", math.MinInt, api.ErrFull)
	wantRefused(t, api.Head{}, "", 0, api.ErrFull)
}

// P12.2: the greatest room, and those around what a packet may have.
func TestCutGreatRooms(t *testing.T) {
	for _, room := range []int{65535, 65536, 1 << 31, 1<<31 - 1, 1 << 32, 1 << 62, math.MaxInt - 1, math.MaxInt} {
		wantCut(t, api.Head{}, "", room, piece{})
		wantCut(t, api.Head{}, of(65515), room, piece{0, 65515, false, ""})
		wantCut(t, plain, of(20), room, piece{plain.At, 20, false, plain.Opts})
	}
	wantCut(t, api.Head{}, of(65515), 65534, piece{0, 65512, true, ""}, piece{65512, 3, false, ""})
	wantCut(t, api.Head{}, of(65515), 65532, piece{0, 65512, true, ""}, piece{65512, 3, false, ""})
	wantCut(t, api.Head{}, of(65515), 65531, piece{0, 65504, true, ""}, piece{65504, 11, false, ""})
}

// none are options that are none, by each way to tell that, of 4 and 8 bytes.
func none() []string {
	return []string{"\x07\x09ab", "\x83\x05ab", "\x01\x01\x01\x83", "\x07\x00ab", "\x83\x01ab", "\x83\x04ab\x07\x05ab", "\x83\x04ab\x01\x01\x01\x02", "\x83\x04ab\x83\x01\x00\x00"}
}

// P12.2: with Opts that are none a packet that fits is alone, one that does not is refused.
func TestCutOptsThatAreNone(t *testing.T) {
	for _, opts := range none() {
		h := api.Head{At: 16, Opts: opts}
		size := 20 + len(opts) + 100
		for _, room := range []int{size, size + 1, math.MaxInt} {
			wantCut(t, h, of(100), room, piece{16, 100, false, opts})
			held := h
			held.Hold = true
			wantCut(t, held, of(100), room, piece{16, 100, false, opts})
		}
		for _, room := range []int{20 + len(opts) + 8, 20 + len(opts) + 9, 50, size - 8, size - 1} {
			wantRefused(t, h, of(100), room, api.ErrArg)
		}
		wantCut(t, h, "", 20+len(opts), piece{16, 0, false, opts})
	}
	// What stands behind a byte 0 is none of them, and goes with the first part.
	behind := "\x83\x03a\x00\x07\x00\x00\x07"
	wantCut(t, api.Head{Opts: behind}, of(20), 36, piece{0, 8, true, behind}, piece{8, 12, false, "\x83\x03a\x00"})
}

// P12.2: of several reasons the one that is named first.
func TestCutErrorsAtOnce(t *testing.T) {
	for _, opts := range none() {
		held := api.Head{Hold: true, Opts: opts}
		for _, room := range []int{math.MinInt, 0, 20 + len(opts) + 7, 20 + len(opts) + 8, 20 + len(opts) + 99} {
			wantRefused(t, held, of(100), room, api.ErrLong)
			wantRefused(t, api.Head{Hold: true}, of(100), min(room, 119), api.ErrLong)
		}
		for _, room := range []int{math.MinInt, -1, 0, 27, 20 + len(opts) + 7} {
			wantRefused(t, api.Head{Opts: opts}, of(100), room, api.ErrFull)
		}
		for _, room := range []int{math.MinInt, 0, 36, math.MaxInt} {
			wantRefused(t, api.Head{Hold: true, Opts: opts + "\x01"}, of(100), room, api.ErrArg)
			wantRefused(t, api.Head{Opts: opts, At: 4}, of(100), room, api.ErrArg)
			wantRefused(t, api.Head{Opts: opts, More: true, Hold: true}, of(100), room, api.ErrArg)
			wantRefused(t, api.Head{Opts: opts, At: 4}, of(1<<17), room, api.ErrArg)
			wantRefused(t, api.Head{Opts: opts}, of(65516-len(opts)), room, api.ErrLong)
			wantRefused(t, api.Head{Opts: opts, More: true}, of(65520), room, api.ErrLong)
		}
	}
	wantRefused(t, api.Head{At: -8, Hold: true}, of(100), 0, api.ErrArg)
	wantRefused(t, api.Head{More: true, Hold: true}, "", 0, api.ErrArg)
	wantRefused(t, api.Head{At: 65520, Hold: true}, of(8), 0, api.ErrLong)
}

// P12.2: data of few bytes, and of multiples of 8, for each room from the least one to one that is enough.
func TestCutData(t *testing.T) {
	for _, n := range []int{0, 1, 7, 8, 9, 15, 16, 17, 23, 24, 25, 31, 32, 33, 64, 120} {
		for room := 28; room <= 20+n+9; room++ {
			h := api.Head{TTL: 3}
			wantCut(t, h, of(n), room, pieces(h, n, room)...)
			l, _ := Cut(h, of(n), room)
			wantFollows(t, h, of(n), room, l)
		}
	}
	eight, last := piece{0, 8, true, ""}, piece{8, 8, false, ""}
	wantCut(t, api.Head{}, of(9), 28, eight, piece{8, 1, false, ""})
	wantCut(t, api.Head{}, of(15), 28, eight, piece{8, 7, false, ""})
	wantCut(t, api.Head{}, of(16), 28, eight, last)
	wantCut(t, api.Head{}, of(16), 35, eight, last)
	wantCut(t, api.Head{}, of(16), 36, piece{0, 16, false, ""})
	wantCut(t, api.Head{}, of(17), 28, eight, piece{8, 8, true, ""}, piece{16, 1, false, ""})
	wantCut(t, api.Head{}, of(17), 36, piece{0, 16, true, ""}, piece{16, 1, false, ""})
	wantCut(t, api.Head{}, of(17), 37, piece{0, 17, false, ""})
}

// P12.2: the last part takes all that is left, though it is no multiple of 8, if there is room.
func TestCutLastPart(t *testing.T) {
	wantCut(t, api.Head{}, of(23), 35, piece{0, 8, true, ""}, piece{8, 15, false, ""})
	wantCut(t, api.Head{}, of(24), 35, piece{0, 8, true, ""}, piece{8, 8, true, ""}, piece{16, 8, false, ""})
	wantCut(t, api.Head{}, of(22), 34, piece{0, 8, true, ""}, piece{8, 14, false, ""})
	wantCut(t, api.Head{}, of(23), 34, piece{0, 8, true, ""}, piece{8, 8, true, ""}, piece{16, 7, false, ""})
	wantCut(t, api.Head{At: 80}, of(47), 43, piece{80, 16, true, ""}, piece{96, 16, true, ""}, piece{112, 15, false, ""})
	wantCut(t, api.Head{At: 80}, of(39), 43, piece{80, 16, true, ""}, piece{96, 23, false, ""})
	wantCut(t, api.Head{At: 80, More: true}, of(40), 43, piece{80, 16, true, ""}, piece{96, 16, true, ""}, piece{112, 8, true, ""})
}

// P12.2: behind the last part of one that has some behind it, others come too.
func TestCutMore(t *testing.T) {
	for n := 8; n <= 96; n += 8 {
		for room := 28; room <= 20+n+9; room++ {
			h := api.Head{More: true, At: 8 * (n % 5), Proto: 17}
			wantCut(t, h, of(n), room, pieces(h, n, room)...)
			l, _ := Cut(h, of(n), room)
			for _, s := range l {
				if part, text := read(t, s); !part.More || len(text)%8 != 0 {
					t.Errorf("%d bytes, with More, for %d: %+v, %d bytes", n, room, part, len(text))
				}
			}
		}
	}
	wantCut(t, api.Head{More: true}, of(24), 36, piece{0, 16, true, ""}, piece{16, 8, true, ""})
	wantCut(t, api.Head{More: false}, of(24), 36, piece{0, 16, true, ""}, piece{16, 8, false, ""})
	wantCut(t, api.Head{More: true}, of(16), 36, piece{0, 16, true, ""})
}

// P12.2: a part that does not stand at 0, up to the end of what a packet may have.
func TestCutAt(t *testing.T) {
	wantCut(t, api.Head{At: 8}, of(20), 36, piece{8, 16, true, ""}, piece{24, 4, false, ""})
	wantCut(t, api.Head{At: 65496}, of(19), 28, piece{65496, 8, true, ""}, piece{65504, 8, true, ""}, piece{65512, 3, false, ""})
	wantCut(t, api.Head{At: 65496, More: true}, of(16), 28, piece{65496, 8, true, ""}, piece{65504, 8, true, ""})
	wantCut(t, api.Head{At: 65504}, of(11), 28, piece{65504, 8, true, ""}, piece{65512, 3, false, ""})
	wantCut(t, api.Head{At: 65504}, of(11), 31, piece{65504, 11, false, ""})
	wantCut(t, api.Head{At: 65512}, of(3), 23, piece{65512, 3, false, ""})
	wantRefused(t, api.Head{At: 65512}, of(3), 22, api.ErrFull)
	wantCut(t, api.Head{At: 65488, Opts: firstOpts}, of(19), 36, piece{65488, 8, true, firstOpts}, piece{65496, 11, false, ""})
	wantCut(t, api.Head{At: 65488, Opts: allOpts}, of(19), 36, piece{65488, 8, true, allOpts}, piece{65496, 8, true, allOpts}, piece{65504, 3, false, allOpts})
	for _, at := range []int{0, 8, 16, 800, 32768, 65432} {
		for _, n := range []int{9, 16, 75} {
			for _, room := range []int{36, 40, 47, 48, 60} {
				h := plain
				h.At = at
				wantCut(t, h, of(n), room, pieces(h, n, room)...)
			}
		}
	}
}

// P12.2: parts behind the first one have more room, if options are not for them.
func TestCutOpts(t *testing.T) {
	wantCut(t, api.Head{Opts: firstOpts}, of(64), 44,
		piece{0, 16, true, firstOpts}, piece{16, 24, true, ""}, piece{40, 24, false, ""})
	wantCut(t, api.Head{Opts: allOpts}, of(64), 44,
		piece{0, 16, true, allOpts}, piece{16, 16, true, allOpts}, piece{32, 16, true, allOpts}, piece{48, 16, false, allOpts})
	wantCut(t, api.Head{Opts: halfOpts}, of(64), 44,
		piece{0, 16, true, halfOpts}, piece{16, 16, true, "\x84\x04cd"}, piece{32, 16, true, "\x84\x04cd"}, piece{48, 16, false, "\x84\x04cd"})
	wantCut(t, api.Head{Opts: halfOpts}, of(64), 48,
		piece{0, 16, true, halfOpts}, piece{16, 24, true, "\x84\x04cd"}, piece{40, 24, false, "\x84\x04cd"})
	wantCut(t, api.Head{Opts: halfOpts}, of(36), 44,
		piece{0, 16, true, halfOpts}, piece{16, 20, false, "\x84\x04cd"})
	wantCut(t, api.Head{Opts: halfOpts}, of(37), 44,
		piece{0, 16, true, halfOpts}, piece{16, 16, true, "\x84\x04cd"}, piece{32, 5, false, "\x84\x04cd"})
	// What fills up is filled up anew: a part has a head that is shorter, or as long.
	odd := "\x01\x80\x03a\x01\x07\x02\x00"
	wantCut(t, api.Head{Opts: odd}, of(30), 36, piece{0, 8, true, odd}, piece{8, 8, true, "\x80\x03a\x00"}, piece{16, 8, true, "\x80\x03a\x00"}, piece{24, 6, false, "\x80\x03a\x00"})
	ones := strings.Repeat("\x01", 40)
	wantCut(t, api.Head{Opts: ones, More: true}, of(64), 68, piece{0, 8, true, ones}, piece{8, 48, true, ""}, piece{56, 8, true, ""})
	full := "\x80\x28" + of(38)
	wantCut(t, api.Head{Opts: full}, of(17), 68, piece{0, 8, true, full}, piece{8, 8, true, full}, piece{16, 1, false, full})
	// Where no options are for all, those of the first part stand there alone, wherever in the whole it stands.
	wantCut(t, api.Head{At: 800, Opts: firstOpts}, of(20), 36, piece{800, 8, true, firstOpts}, piece{808, 12, false, ""})
}

// P12.2: all other fields are in each part as they were.
func TestCutFields(t *testing.T) {
	for _, h := range []api.Head{
		{Tos: 255}, {ID: 65535}, {TTL: 255}, {TTL: 1}, {Proto: 255}, {From: 1<<32 - 1}, {To: 1<<32 - 1}, plain,
		{Tos: 1, ID: 2, More: true, At: 24, TTL: 0, Proto: 4, From: 5, To: 6, Opts: halfOpts},
	} {
		l, e := Cut(h, of(64), 44)
		if e != api.OK || len(l) < 3 {
			t.Errorf("Cut(%+v): %d parts, %v", h, len(l), e)
		}
		wantFollows(t, h, of(64), 44, l)
	}
}

// P12.2, P12.3: whatever is cut, it is as it is counted, and what follows holds; what is not cut is told by its reason.
func TestAgainstTheModel(t *testing.T) {
	d := drawer(12)
	for range 4000 {
		h, data := d.packet(300)
		least := 20 + len(h.Opts) + 8
		size := least - 8 + len(data)
		room := least - 10 + d.below(120)
		if d.below(10) == 0 {
			room = size + d.below(3) - 1
		}
		if size > room && room < least {
			wantRefused(t, h, data, room, api.ErrFull)
			continue
		}
		wantCut(t, h, data, room, pieces(h, len(data), room)...)
		l, _ := Cut(h, data, room)
		wantFollows(t, h, data, room, l)
		h.Hold = true
		if size > room {
			wantRefused(t, h, data, room, api.ErrLong)
		} else {
			wantCut(t, h, data, room, piece{h.At, len(data), h.More, h.Opts})
		}
	}
}

// P12.3: the greatest packet, in as many parts as may be, and in fewer.
func TestCutTheGreatest(t *testing.T) {
	data := of(65515)
	for _, room := range []int{28, 29, 35, 36, 576, 1500, 9000, 32768} {
		l, e := Cut(api.Head{ID: 9}, data, room)
		if e != api.OK || len(l) != (65515-(room-20)+(room-20)/8*8-1)/((room-20)/8*8)+1 {
			t.Errorf("for %d: %d parts, %v", room, len(l), e)
		}
		wantFollows(t, api.Head{ID: 9}, data, room, l)
	}
	if l, _ := Cut(api.Head{}, data, 28); len(l) != 8190 {
		t.Errorf("%d parts", len(l))
	}
}

// P12.3: parts cut again, for less room, and once more, are parts of the packet, each behind the other.
func TestCutAgain(t *testing.T) {
	d := drawer(123)
	for range 600 {
		h, data := d.packet(600)
		least := 20 + len(h.Opts) + 8
		room := least + d.below(200)
		for {
			l, e := Cut(h, data, room)
			if e != api.OK {
				t.Fatalf("Cut(%+v, %d bytes, %d): %v", h, len(data), room, e)
			}
			for less := room; less > least; {
				less = least + d.below(less-least)
				l = cutAgain(t, l, less)
				wantFollows(t, h, data, less, l)
			}
			// For the room that they have, they stay as they are.
			if again := cutAgain(t, l, room); !slices.Equal(again, l) {
				t.Errorf("parts of %+v cut again for %d are others", h, room)
			}
			if room == least {
				break
			}
			room = least
		}
	}
}

// P12.3: cut again, written out: a first part and one behind it, with their options; the first one may have too many of them for what the other one has room in.
func TestCutAgainBytes(t *testing.T) {
	data := of(64)
	l, _ := Cut(api.Head{ID: 5, Opts: halfOpts}, data, 60)
	if len(l) != 2 {
		t.Fatalf("%d parts", len(l))
	}
	first, a := read(t, l[0])
	other, b := read(t, l[1])
	wantCut(t, first, a, 44, piece{0, 16, true, halfOpts}, piece{16, 16, true, "\x84\x04cd"})
	wantCut(t, other, b, 44, piece{32, 16, true, "\x84\x04cd"}, piece{48, 16, false, "\x84\x04cd"})
	wantCut(t, other, b, 32, piece{32, 8, true, "\x84\x04cd"}, piece{40, 8, true, "\x84\x04cd"}, piece{48, 8, true, "\x84\x04cd"}, piece{56, 8, false, "\x84\x04cd"})
	wantRefused(t, first, a, 35, api.ErrFull)
	wantRefused(t, other, b, 31, api.ErrFull)
}

// Ways: who ranges over parts may leave off, and begins at the first one again.
func TestPartsAreLeft(t *testing.T) {
	row := parts(plain, of(51), 44)
	for _, most := range []int{1, 2, 3, 2} {
		got := ""
		n := 0
		for h, data := range row {
			if h.At != plain.At+len(got) {
				t.Errorf("part %d of %d is at %d", n, most, h.At)
			}
			got += data
			if n++; n == most {
				break
			}
		}
		if want := of(51)[:[]int{0, 16, 32, 51}[most]]; n != most || got != want {
			t.Errorf("%d parts: %q, want %q", n, got, want)
		}
	}
}

// R6: the same is cut in the same way, however often.
func TestCutIsTheSame(t *testing.T) {
	d := drawer(6)
	h, data := d.packet(500)
	h.Opts = halfOpts
	want, _ := Cut(h, data, 44)
	for range 20 {
		if l, e := Cut(h, data, 44); !slices.Equal(l, want) || e != api.OK {
			t.Errorf("%q, %v, want %q", l, e, want)
		}
		Cut(plain, of(70), 44)
		Cut(api.Head{At: 1}, of(70), 44)
	}
}

// R5: answers are no memory of what was handed in, nor of each other.
func TestAnswersAreNewMemory(t *testing.T) {
	shares := func(a, b string) bool {
		from, to := uintptr(unsafe.Pointer(unsafe.StringData(a))), uintptr(unsafe.Pointer(unsafe.StringData(b)))
		return a != "" && from >= to && from < to+uintptr(len(b))
	}
	opts := strings.Clone(allOpts)
	if shares(Kept(opts), opts) {
		t.Error("what is kept is memory of the options")
	}
	data := of(64)
	for _, room := range []int{44, 200} {
		a, _ := Cut(api.Head{Opts: opts}, data, room)
		b, _ := Cut(api.Head{Opts: opts}, data, room)
		for _, s := range a {
			if shares(s, data) || shares(s, opts) {
				t.Error("a part is memory of what was cut")
			}
		}
		want := slices.Clone(b)
		for i := range a {
			a[i] = "other"
		}
		_ = append(a[:1], "other", "other")
		if !slices.Equal(b, want) {
			t.Error("two answers are one memory")
		}
	}
	if data != of(64) || opts != allOpts {
		t.Error("what was handed in is another one")
	}
}

// R7: errors tell their numbers.
func TestErrorsTellTheirNumbers(t *testing.T) {
	for _, c := range []struct {
		h    api.Head
		room int
		want string
	}{
		{api.Head{At: 1}, 40, "error 2"}, {api.Head{Opts: "\x07\x09ab"}, 40, "error 2"}, {api.Head{Hold: true}, 40, "error 4"}, {api.Head{}, 27, "error 6"}, {api.Head{}, 40, "error 0"},
	} {
		if _, e := Cut(c.h, of(64), c.room); e.Error() != c.want {
			t.Errorf("Cut(%+v, 64 bytes, %d): %v, want %s", c.h, c.room, e, c.want)
		}
	}
}
