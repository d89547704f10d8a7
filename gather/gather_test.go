package gather

import (
	"maps"
	"math"
	"slices"
	"strings"
	"testing"
	"unsafe"

	"stevedore/api"
	"stevedore/frag"
	"stevedore/ip4"
)

// small is a conf that is soon full, roomy one that is not.
var (
	small = api.GatherConf{Most: 2, Bytes: 40, Parts: 3, Time: 10}
	roomy = api.GatherConf{Most: 8, Bytes: 1 << 20, Parts: 64, Time: 10}
)

// plain is a head no two of whose fields are alike, of a part at 0.
var plain = api.Head{Tos: 0x11, ID: 0x2233, Hold: true, More: true, TTL: 0x77, Proto: 0x88, From: 0x99aabbcc, To: 0xddeeff10, Opts: "\x07\x04xy\x83\x03\x05\x01"}

// drawer makes numbers that look like chance and are the same each time.
type drawer uint64

func (d *drawer) next() uint64 {
	*d = *d*6364136223846793005 + 1442695040888963407
	return uint64(*d >> 24)
}

func (d *drawer) below(n int) int { return int(d.next() >> 8 % uint64(n)) }

func (d *drawer) text(n int) string {
	b := make([]byte, n)
	for i := range b {
		b[i] = byte(d.next())
	}
	return string(b)
}

// shuffled are the numbers below n in some order.
func (d *drawer) shuffled(n int) []int {
	l := make([]int, n)
	for i := range l {
		l[i] = i
		j := d.below(i + 1)
		l[i], l[j] = l[j], i
	}
	return l
}

// of are n bytes that are unlike wherever they are taken from, as far as a test can see it.
func of(n int) string {
	b := make([]byte, n)
	for i := range b {
		b[i] = byte(i>>8 ^ i*7)
	}
	return string(b)
}

// orders are all orders of the numbers below n.
func orders(n int) [][]int {
	if n == 0 {
		return [][]int{nil}
	}
	var out [][]int
	for _, l := range orders(n - 1) {
		for i := range n {
			out = append(out, slices.Insert(slices.Clone(l), i, n-1))
		}
	}
	return out
}

// piece is a part of a packet: its head, and its data.
type piece struct {
	h    api.Head
	data string
}

// at is a part of the packet of which plain is the first part's head; only that one has options.
func at(place int, data string, more bool) piece {
	h := plain
	h.At, h.More = place, more
	if place > 0 {
		h.Opts = ""
	}
	return piece{h, data}
}

// first, middle and last are a packet of 27 bytes; end is its end alone, without a byte.
var (
	first  = at(0, of(27)[:8], true)
	middle = at(8, of(27)[8:24], true)
	last   = at(24, of(27)[24:], false)
	end    = at(24, "", false)
)

// with is a part of another packet, that is unlike in what set sets.
func (p piece) with(set func(h *api.Head)) piece {
	set(&p.h)
	return p
}

// id is the part in a packet of another ID.
func (p piece) id(n uint16) piece { return p.with(func(h *api.Head) { h.ID = n }) }

// made is what New makes of a conf that may be.
func made(t *testing.T, c api.GatherConf) *Gather {
	t.Helper()
	g, e := New(c)
	if g == nil || e != api.OK {
		t.Fatalf("New(%+v): %v, %v", c, g, e)
	}
	return g
}

// having is what New makes of a conf, with parts that came at the time 0, and made nothing whole.
func having(t *testing.T, c api.GatherConf, l ...piece) *Gather {
	t.Helper()
	g := made(t, c)
	for _, p := range l {
		wantPart(t, g, p, 0)
	}
	return g
}

// wantPut does a Put, and holds its answer against what is wanted.
func wantPut(t *testing.T, g *Gather, p piece, now int64, h api.Head, data string, whole bool, e api.Errno) {
	t.Helper()
	k, s, is, f := g.Put(p.h, p.data, now)
	if k != h || s != data || is != whole || f != e {
		t.Errorf("Put(%+v, %.40q, %d): %+v, %.40q, %v, %v, want %+v, %.40q, %v, %v", p.h, p.data, now, k, s, is, f, h, data, whole, e)
	}
}

// wantPart does a Put of a part that makes nothing whole.
func wantPart(t *testing.T, g *Gather, p piece, now int64) {
	t.Helper()
	wantPut(t, g, p, now, api.Head{}, "", false, api.OK)
}

// wantError does a Put that is refused.
func wantError(t *testing.T, g *Gather, p piece, now int64, e api.Errno) {
	t.Helper()
	wantPut(t, g, p, now, api.Head{}, "", false, e)
}

// wantWhole does a Put that makes whole a packet that has the head of its part at 0, without More.
func wantWhole(t *testing.T, g *Gather, p piece, now int64, front api.Head, data string) {
	t.Helper()
	front.More = false
	wantPut(t, g, p, now, front, data, true, api.OK)
}

// wantTick does a Tick, and holds its answer against what is wanted.
func wantTick(t *testing.T, g *Gather, now int64, want ...api.Head) {
	t.Helper()
	if l := g.Tick(now); !slices.Equal(l, want) {
		t.Errorf("Tick(%d): %+v, want %+v", now, l, want)
	}
}

// wantTold holds what Held, Len and Next tell against what is wanted; next -1: there is none.
func wantTold(t *testing.T, g *Gather, held, n int, next int64) {
	t.Helper()
	if is := g.Held(); is != held {
		t.Errorf("Held(): %d, want %d", is, held)
	}
	if is := g.Len(); is != n {
		t.Errorf("Len(): %d, want %d", is, n)
	}
	time, is := g.Next()
	if next < 0 && (time != 0 || is) || next >= 0 && (time != next || !is) {
		t.Errorf("Next(): %d, %v, want %d", time, is, next)
	}
}

// The chapter's examples.
func TestExamples(t *testing.T) {
	front, back := piece{api.Head{More: true}, "abcdefgh"}, piece{api.Head{At: 8}, "xyz"}
	for _, l := range [][]piece{{front, back}, {back, front}} {
		g := made(t, small)
		wantPart(t, g, l[0], 0)
		wantWhole(t, g, l[1], 0, api.Head{}, "abcdefghxyz")
		wantTold(t, g, 0, 0, -1)
	}
	g := made(t, small)
	wantPart(t, g, front, 0)
	wantError(t, g, front, 1, api.ErrThere)
	wantTold(t, g, 8, 1, 10)
	wantError(t, g, piece{api.Head{More: true}, "abcdefghijklmnop"}, 2, api.ErrState)
	wantTold(t, g, 0, 1, 10)
	for _, p := range []piece{front, back, front} {
		wantError(t, g, p, 9, api.ErrState)
	}
	wantTick(t, g, 10)
	wantPart(t, g, front, 10)
	wantWhole(t, g, back, 10, api.Head{}, "abcdefghxyz")
}

// P13.1: which confs may be: each field at its edges, and one beyond.
func TestNewConfs(t *testing.T) {
	for _, c := range []struct {
		name string
		set  func(c *api.GatherConf, v int64)
		most int64
	}{
		{"Most", func(c *api.GatherConf, v int64) { c.Most = int(v) }, api.MaxGather},
		{"Bytes", func(c *api.GatherConf, v int64) { c.Bytes = int(v) }, 1 << 26},
		{"Parts", func(c *api.GatherConf, v int64) { c.Parts = int(v) }, api.MaxParts},
		{"Time", func(c *api.GatherConf, v int64) { c.Time = v }, 1 << 40},
	} {
		for _, v := range []int64{1, 2, c.most - 1, c.most} {
			k := small
			c.set(&k, v)
			g := made(t, k)
			wantTold(t, g, 0, 0, -1)
			wantTick(t, g, 1<<44)
		}
		for _, v := range []int64{0, -1, math.MinInt64, c.most + 1, 2 * c.most, math.MaxInt64} {
			k := small
			c.set(&k, v)
			if g, e := New(k); g != nil || e != api.ErrArg {
				t.Errorf("%s of %d: %v, %v", c.name, v, g, e)
			}
		}
	}
	if g, e := New(api.GatherConf{}); g != nil || e != api.ErrArg {
		t.Errorf("of nothing: %v, %v", g, e)
	}
	made(t, api.GatherConf{Most: 1, Bytes: 1, Parts: 1, Time: 1})
	made(t, api.GatherConf{Most: api.MaxGather, Bytes: 1 << 26, Parts: api.MaxParts, Time: 1 << 40})
}

// P13.1: two of one conf know nothing of each other.
func TestNewOnesAreApart(t *testing.T) {
	a, b := having(t, small, first), made(t, small)
	wantTold(t, b, 0, 0, -1)
	wantPart(t, b, middle, 5)
	wantTold(t, a, 8, 1, 10)
	wantTold(t, b, 16, 1, 15)
}

// P13.1: what is told behind each of several calls.
func TestWhatIsTold(t *testing.T) {
	g := made(t, roomy)
	wantPart(t, g, middle, 3)
	wantTold(t, g, 16, 1, 13)
	wantPart(t, g, first.id(1), 5)
	wantTold(t, g, 24, 2, 13)
	wantPart(t, g, first, 5)
	wantTold(t, g, 32, 2, 13)
	wantPart(t, g, end.id(2), 6)
	wantTold(t, g, 32, 3, 13)
	wantWhole(t, g, last, 7, plain, of(27))
	wantTold(t, g, 8, 2, 15)
	wantError(t, g, at(0, of(16), true).id(1), 8, api.ErrState)
	wantTold(t, g, 0, 2, 15)
	wantPart(t, g, middle.id(2), 9)
	wantTold(t, g, 16, 2, 15)
	wantTick(t, g, 15)
	wantTold(t, g, 16, 1, 16)
	wantTick(t, g, 16)
	wantTold(t, g, 0, 0, -1)
}

// P13.2: a head that may not be written, and data that may not be with it, whatever is there.
func TestPutRefusesWhatMayNotBe(t *testing.T) {
	long := strings.Repeat("\x01", 44)
	for _, g := range []*Gather{made(t, roomy), having(t, api.GatherConf{Most: 1, Bytes: 8, Parts: 1, Time: 10}, first)} {
		held, n := g.Held(), g.Len()
		for _, p := range []piece{
			{api.Head{At: 1}, "x"}, {api.Head{At: 4}, "x"}, {api.Head{At: -8}, "x"}, {api.Head{At: -1}, "x"}, {api.Head{At: math.MinInt}, "x"},
			{api.Head{At: 65536}, ""}, {api.Head{At: 65544}, ""}, {api.Head{At: math.MaxInt}, "x"}, {api.Head{At: math.MaxInt - 7}, "x"}, {api.Head{At: 1<<32 + 8}, "x"},
			{api.Head{Opts: "\x01"}, "x"}, {api.Head{Opts: "\x01\x01\x01"}, "x"}, {api.Head{Opts: "\x01\x01\x01\x01\x01"}, "x"}, {api.Head{Opts: long}, "x"},
			{api.Head{At: 8, Opts: long}, "x"}, {api.Head{At: 8, Opts: "\x01\x01"}, "x"}, {api.Head{More: true, Opts: long}, of(8)},
			{api.Head{More: true}, ""}, {api.Head{More: true}, "x"}, {api.Head{More: true}, of(7)}, {api.Head{More: true}, of(9)}, {api.Head{More: true, At: 8}, ""},
			{api.Head{More: true, At: 8}, of(15)}, {api.Head{More: true, At: 1}, of(8)},
			{api.Head{}, of(65516)}, {api.Head{At: 8}, of(65508)}, {api.Head{At: 65512}, of(4)}, {api.Head{At: 65520}, ""}, {api.Head{At: 65528}, ""},
			{api.Head{Opts: long[:40]}, of(65476)}, {api.Head{At: 65472, Opts: long[:40]}, of(4)}, {api.Head{At: 65512, More: true}, of(8)}, {api.Head{More: true}, of(65520)},
			{api.Head{}, of(1 << 17)}, {first.h, ""}, {first.h, of(12)}, {middle.h, of(3)},
		} {
			if _, e := ip4.Encode(p.h, p.data); e == api.OK {
				t.Errorf("%+v, %d bytes may be written", p.h, len(p.data))
			}
			wantError(t, g, p, 500, api.ErrArg)
			if g.Held() != held || g.Len() != n {
				t.Errorf("%d bytes of %d are held", g.Held(), g.Len())
			}
		}
		wantPut(t, g, piece{api.Head{ID: 9}, "x"}, 0, api.Head{ID: 9}, "x", true, api.OK)
	}
	// What a bound of ip4 just lets be is taken.
	g := made(t, roomy)
	for i, p := range []piece{
		{api.Head{At: 65512}, of(3)}, {api.Head{At: 65504, More: true}, of(8)}, {api.Head{At: 65512}, ""}, {api.Head{At: 65472, Opts: long[:40]}, of(3)}, {api.Head{More: true}, of(65512)},
	} {
		wantPart(t, g, p.id(uint16(i)), 0)
	}
	wantTold(t, g, 65526, 5, 10)
}

// P13.2: a packet that is whole at once is answered as it is: none there, Most there, one of its own there, with parts or spoilt, and with no room.
func TestWholeAtOnce(t *testing.T) {
	whole := plain
	whole.More = false
	other := whole
	other.ID = 9
	full := having(t, api.GatherConf{Most: 2, Bytes: 32, Parts: 1, Time: 10}, middle, middle.id(2))
	spoilt := having(t, small, first, first.id(2))
	wantError(t, spoilt, at(0, of(16), true), 0, api.ErrState)
	for _, g := range []*Gather{made(t, small), having(t, small, first), having(t, small, end, middle.id(2)), full, spoilt} {
		held, n := g.Held(), g.Len()
		for _, h := range []api.Head{whole, other, {}, {Hold: true}, {Opts: "\x07\x09\x00\x00"}} {
			for _, data := range []string{"", "x", of(8), of(27), of(41), of(65475)} {
				wantPut(t, g, piece{h, data}, 1, h, data, true, api.OK)
				if g.Held() != held || g.Len() != n {
					t.Errorf("%d bytes of %d are held", g.Held(), g.Len())
				}
			}
		}
	}
	wantPut(t, full, piece{api.Head{}, of(65515)}, 1, api.Head{}, of(65515), true, api.OK)
	// The parts that were there go on as if nothing had come.
	g := having(t, small, first)
	wantPut(t, g, piece{whole, "once"}, 0, whole, "once", true, api.OK)
	wantPart(t, g, middle, 0)
	wantPut(t, g, piece{whole, of(27)}, 0, whole, of(27), true, api.OK)
	wantWhole(t, g, last, 0, plain, of(27))
	wantPut(t, g, piece{whole, of(27)}, 0, whole, of(27), true, api.OK)
	wantTold(t, g, 0, 0, -1)
}

// P13.2: a first part with Most gatherings there, of whatever kind they are; there is room again when one is whole, or over.
func TestPutMost(t *testing.T) {
	for most := 1; most <= 3; most++ {
		g := made(t, api.GatherConf{Most: most, Bytes: 1000, Parts: 9, Time: 10})
		for i := range most {
			wantPart(t, g, first.id(uint16(i)), int64(i))
		}
		for _, p := range []piece{first, middle, last, end} {
			wantError(t, g, p.id(50), 5, api.ErrFull)
		}
		wantTold(t, g, 8*most, most, 10)
		wantPart(t, g, middle.id(0), 5)
		wantError(t, g, middle.id(50), 5, api.ErrFull)
		front := first.id(0).h
		wantWhole(t, g, last.id(0), 5, front, of(27))
		wantPart(t, g, middle.id(50), 5)
		wantError(t, g, middle.id(51), 5, api.ErrFull)
		// A spoilt one takes up room as well.
		wantError(t, g, at(8, of(8), true).id(50), 5, api.ErrState)
		wantError(t, g, middle.id(51), 5, api.ErrFull)
		wantError(t, g, middle.id(50), 5, api.ErrState)
		g.Tick(15)
		wantPart(t, g, middle.id(51), 15)
	}
	g := made(t, api.GatherConf{Most: api.MaxGather, Bytes: 1 << 26, Parts: 1, Time: 10})
	for i := range api.MaxGather {
		wantPart(t, g, middle.id(uint16(i)), 0)
	}
	wantError(t, g, middle.id(999), 0, api.ErrFull)
	wantTold(t, g, 16*api.MaxGather, api.MaxGather, 10)
}

// P13.2: the same part again: first, middle, last and empty ones, while others are there or not; whatever else its head has.
func TestPutOfWhatIsThere(t *testing.T) {
	for _, l := range [][]piece{{first}, {middle}, {last}, {end}, {first, middle}, {middle, first}, {first, last}, {last, middle}, {middle, end}, {end, first}} {
		g := having(t, roomy, l...)
		held := g.Held()
		for range 2 {
			for _, p := range l {
				wantError(t, g, p, 3, api.ErrThere)
				p.h.TTL, p.h.Tos, p.h.Hold, p.h.Opts = 1, 2, false, "\x01\x01\x01\x01"
				wantError(t, g, p, 3, api.ErrThere)
				wantTold(t, g, held, 1, 10)
			}
		}
	}
	// Where there are no more parts to be, and no more bytes, it is there none the less.
	g := having(t, api.GatherConf{Most: 1, Bytes: 16, Parts: 1, Time: 10}, middle)
	wantError(t, g, middle, 0, api.ErrThere)
	// What is whole is not there any more.
	g = having(t, roomy, first, middle)
	wantWhole(t, g, last, 0, plain, of(27))
	wantPart(t, g, last, 1)
	wantTold(t, g, 3, 1, 11)
}

// P13.2: what spoils what: each part that can't be of one packet with what is there.
func TestWhatSpoils(t *testing.T) {
	other := strings.Repeat("#", 64)
	wide := at(16, of(32)[:16], true) // bytes 16 to 31
	closed := at(16, of(12), false)   // .. to 27, its end
	for _, c := range []struct {
		name  string
		there []piece
		p     piece
	}{
		{"begins where one begins, with other data", []piece{wide}, at(16, other[:16], true)},
		{"one byte of which is another one", []piece{wide}, at(16, of(32)[:15]+"#", true)},
		{"with less data", []piece{wide}, at(16, of(32)[:8], true)},
		{"with more data", []piece{wide}, at(16, of(32)[:24], true)},
		{"at 0", []piece{first}, at(0, other[:8], true)},
		{"at 0, with more data", []piece{first}, at(0, of(27)[:16], true)},
		{"without More", []piece{wide}, at(16, wide.data, false)},
		{"without More, without data", []piece{wide}, at(16, "", false)},
		{"with More, where the last one begins", []piece{at(16, of(16), false)}, at(16, of(16), true)},
		{"with More, where one without data begins", []piece{at(16, "", false)}, at(16, of(8), true)},
		{"the last one again, with other data", []piece{closed}, at(16, other[:12], false)},
		{"the last one again, with less data", []piece{closed}, at(16, of(12)[:11], false)},
		{"the last one again, with more data", []piece{closed}, at(16, of(12)+"#", false)},
		{"the last one again, without data", []piece{closed}, at(16, "", false)},
		{"data where one has none, and an end", []piece{at(16, "", false)}, at(16, of(3), false)},

		{"bytes at one's front", []piece{wide}, at(8, of(16), true)},
		{"at its front, from 0 on", []piece{wide}, at(0, of(24), true)},
		{"at its end", []piece{wide}, at(24, of(16), true)},
		{"at its end, and its end too", []piece{wide}, at(24, of(8), true)},
		{"at its end, as the last one", []piece{wide}, at(24, of(9), false)},
		{"within it", []piece{at(16, of(24), true)}, at(24, of(8), true)},
		{"within it, as it has them", []piece{at(16, of(24), true)}, at(24, of(24)[8:16], true)},
		{"around it", []piece{wide}, at(8, of(32), true)},
		{"around it, from 0 on", []piece{wide}, at(0, of(40), true)},
		{"around it, and its end", []piece{wide}, at(8, of(24), true)},
		{"around it, as the last one", []piece{wide}, at(8, of(24), false)},
		{"around several", []piece{wide, at(40, of(8), true)}, at(8, of(48), true)},
		{"where two have some", []piece{at(0, of(16), true), at(24, of(16), true)}, at(8, of(24), true)},
		{"at the last one's front", []piece{closed}, at(8, of(16), true)},
		{"within the last one", []piece{at(16, of(28), false)}, at(24, of(8), true)},
		{"the last byte of the last one", []piece{at(16, of(9), false)}, at(24, "#", false)},

		{"another end, further", []piece{closed}, at(32, of(3), false)},
		{"another end, one byte further", []piece{at(16, of(8), false)}, at(24, "x", false)},
		{"another end, further, without data", []piece{closed}, at(32, "", false)},
		{"another end, nearer", []piece{closed}, at(8, of(3), false)},
		{"another end, where the last one begins", []piece{closed}, at(8, of(8), false)},
		{"another end, nearer, without data", []piece{closed}, at(8, "", false)},
		{"another end, nearer than one without data", []piece{end}, at(16, of(7), false)},
		{"another end, further than one without data", []piece{end}, at(24, "x", false)},
		{"another end, far from one without data", []piece{end}, at(40, "", false)},

		{"an end ahead of bytes", []piece{wide}, at(8, of(3), false)},
		{"an end where bytes begin", []piece{wide}, at(8, of(8), false)},
		{"an end ahead of bytes, without data", []piece{wide}, at(8, "", false)},
		{"an end within bytes", []piece{wide}, at(24, "", false)},
		{"an end ahead of one's bytes, but not another's", []piece{first, wide}, at(8, of(4), false)},

		{"what reaches behind the end", []piece{closed}, at(8, of(24), true)},
		{"what stands behind it", []piece{closed}, at(32, of(8), true)},
		{"what stands right behind it", []piece{at(16, of(8), false)}, at(24, of(8), true)},
		{"what reaches behind an end without data", []piece{at(16, "", false)}, at(8, of(16), true)},
		{"what stands far behind it", []piece{end}, at(65504, of(8), true)},
		{"what reaches behind it, from 0 on", []piece{at(16, "", false)}, at(0, of(24), true)},
	} {
		for _, l := range [][]piece{c.there, append(slices.Clone(c.there), at(80, of(8), true).id(2)), append([]piece{at(0, of(8), true).id(2)}, c.there...)} {
			g := having(t, roomy, l...)
			held := 8 * (g.Len() - 1)
			wantError(t, g, c.p, 1, api.ErrState)
			wantTold(t, g, held, g.Len(), 10)
			// Nothing is taken any more, not even what would have been, nor what was there.
			for _, p := range append(slices.Clone(c.there), c.p, first, last, at(160, of(8), true)) {
				wantError(t, g, p, 2, api.ErrState)
			}
			wantTold(t, g, held, g.Len(), 10)
			if t.Failed() {
				t.Fatal(c.name)
			}
		}
	}
}

// P13.2: what stands beside each other, as near as may be, spoils nothing.
func TestWhatDoesNotSpoil(t *testing.T) {
	for _, l := range [][]piece{
		{at(8, of(8), true), at(24, of(8), true), at(16, of(8), true), at(32, of(8), true)},
		{at(8, of(16), true), at(24, "", false)},
		{at(24, "", false), at(8, of(16), true)},
		{at(8, of(8), true), at(16, of(3), false)},
		{at(16, of(3), false), at(8, of(8), true)},
		{at(8, of(8), false), at(16, "", false)}, // the same end, told twice
		{at(16, "", false), at(8, of(8), false)},
		{at(16, of(8), true), at(0, of(8), true), at(24, "", false)},
		{at(0, of(8), true), at(16, of(8), false), at(24, "", false)},
		{at(65504, of(8), true), at(0, of(8), true), at(65512, "", false)},
	} {
		g := having(t, roomy, l...)
		held := 0
		for _, p := range l {
			held += len(p.data)
		}
		wantTold(t, g, held, 1, 10)
		for _, p := range l {
			wantError(t, g, p, 1, api.ErrThere)
		}
	}
}

// P13.2: a part that makes whole what has more bytes than a packet, and just as many, in each order; the head of the part at 0 counts, not the others'.
func TestTooLong(t *testing.T) {
	opts := strings.Repeat("\x01", 40)
	for _, c := range []struct {
		opts string
		n    int
		long bool
	}{
		{"", 65515, false}, {opts[:4], 65511, false}, {opts[:4], 65512, true}, {opts[:4], 65515, true},
		{opts, 65475, false}, {opts, 65476, true}, {opts, 65480, true}, {opts, 65515, true}, {opts[:20], 65495, false}, {opts[:20], 65496, true},
	} {
		data := of(c.n)
		front, back := plain, plain
		front.Opts = c.opts
		back.Opts, back.More = "", false
		mid := back
		mid.At, mid.More = 800, true
		back.At = 65464
		l := []piece{{front, data[:800]}, {mid, data[800:65464]}, {back, data[65464:]}}
		for _, o := range orders(3) {
			g := having(t, api.GatherConf{Most: 1, Bytes: 65515, Parts: 3, Time: 10}, l[o[0]], l[o[1]])
			if !c.long {
				wantWhole(t, g, l[o[2]], 0, front, data)
				wantTold(t, g, 0, 0, -1)
				continue
			}
			wantError(t, g, l[o[2]], 0, api.ErrState)
			wantTold(t, g, 0, 1, 10)
			wantError(t, g, l[o[2]], 0, api.ErrState)
		}
	}
	// Options of another part than that at 0 do not count.
	g := made(t, roomy)
	data := of(65515)
	wantPart(t, g, piece{api.Head{At: 8, More: true, Opts: opts[:8]}, data[8:65504]}, 0)
	wantPart(t, g, piece{api.Head{At: 65504}, data[65504:]}, 0)
	wantWhole(t, g, piece{api.Head{More: true}, data[:8]}, 0, api.Head{}, data)
}

// P13.2: more bytes than a packet has spoil nothing as long as it is not whole: while there is no end, and while there is a gap.
func TestTooLongIsToldOfTheWhole(t *testing.T) {
	data := of(65515)
	front := at(0, data[:8], true).with(func(h *api.Head) { h.Opts = strings.Repeat("\x01", 40) })
	for _, c := range []struct {
		there []piece
		makes piece
	}{
		{[]piece{front, at(8, data[8:65512], true)}, at(65512, "", false)},
		{[]piece{front, at(8, data[8:65512], true)}, at(65512, data[65512:], false)},
		{[]piece{front, at(16, data[16:65512], true), at(65512, data[65512:], false)}, at(8, data[8:16], true)},
		{[]piece{at(65512, data[65512:], false), at(16, data[16:65512], true), front}, at(8, data[8:16], true)},
		{[]piece{at(8, data[8:65504], true), at(65504, data[65504:], false)}, front},
	} {
		g := having(t, roomy, c.there...)
		wantError(t, g, c.there[0], 0, api.ErrThere)
		wantTick(t, g, 9)
		wantError(t, g, c.makes, 9, api.ErrState)
		wantTold(t, g, 0, 1, 10)
	}
}

// P13.2: what is too long is told ahead of Parts and Bytes, as is all that spoils.
func TestSpoilsAheadOfFull(t *testing.T) {
	long := plain
	long.Opts = strings.Repeat("\x01", 40)
	a, b := piece{long, of(65472)}, at(65472, of(4), false)
	for _, c := range []api.GatherConf{{Most: 1, Bytes: 65472, Parts: 9, Time: 10}, {Most: 1, Bytes: 1 << 26, Parts: 1, Time: 10}, {Most: 1, Bytes: 65472, Parts: 1, Time: 10}} {
		g := having(t, c, a)
		wantError(t, g, b, 0, api.ErrState)
		wantTold(t, g, 0, 1, 10)
	}
	for _, c := range []api.GatherConf{{Most: 1, Bytes: 16, Parts: 9, Time: 10}, {Most: 1, Bytes: 1 << 26, Parts: 1, Time: 10}, {Most: 1, Bytes: 16, Parts: 1, Time: 10}} {
		for _, p := range []piece{at(8, of(24), true), at(16, of(24), true), at(0, of(16), true), at(16, of(8), false), at(8, middle.data, false)} {
			g := having(t, c, middle)
			wantError(t, g, p, 0, api.ErrState)
			wantTold(t, g, 0, 1, 10)
			wantError(t, g, middle, 0, api.ErrState)
			wantError(t, g, first.id(2), 0, api.ErrFull)
		}
	}
}

// P13.2: a part where Parts are there; it is not kept, and there is room for the one that was refused in another gathering.
func TestPutParts(t *testing.T) {
	for parts := 1; parts <= 4; parts++ {
		g := made(t, api.GatherConf{Most: 2, Bytes: 1000, Parts: parts, Time: 10})
		for i := range parts {
			wantPart(t, g, at(8+8*i, of(8), true), 0)
		}
		for _, p := range []piece{first, at(8+8*parts, of(8), true), at(8+8*parts, of(3), false), at(8+8*parts, "", false), at(800, of(8), true)} {
			wantError(t, g, p, 0, api.ErrFull)
			wantTold(t, g, 8*parts, 1, 10)
		}
		for i := range parts {
			wantError(t, g, at(8+8*i, of(8), true), 0, api.ErrThere)
			wantPart(t, g, at(8+8*i, of(8), true).id(2), 0)
		}
		wantError(t, g, first.id(2), 0, api.ErrFull)
		wantTold(t, g, 16*parts, 2, 10)
	}
	// As many as make it whole, and one less than these.
	wantWhole(t, having(t, api.GatherConf{Most: 1, Bytes: 1000, Parts: 3, Time: 10}, last, middle), first, 0, plain, of(27))
	g := having(t, api.GatherConf{Most: 1, Bytes: 1000, Parts: 2, Time: 10}, last, middle)
	wantError(t, g, first, 0, api.ErrFull)
	wantTold(t, g, 19, 1, 10)
}

// P13.2: the greatest bounds: MaxParts parts, of which the last one makes it whole, or one more is refused.
func TestPutGreatestParts(t *testing.T) {
	c := api.GatherConf{Most: 1, Bytes: 1 << 26, Parts: api.MaxParts, Time: 10}
	data := of(8 * api.MaxParts)
	for _, from := range []int{0, 8} {
		g := made(t, c)
		d := drawer(5)
		order := d.shuffled(api.MaxParts)
		for n, i := range order {
			p := at(from+8*i, data[8*i:8*i+8], from > 0 || i < api.MaxParts-1)
			if from == 0 && n == api.MaxParts-1 {
				wantWhole(t, g, p, 0, plain, data)
				break
			}
			wantPart(t, g, p, 0)
		}
		if from > 0 {
			wantError(t, g, first, 0, api.ErrFull)
			wantError(t, g, at(8+len(data), "", false), 0, api.ErrFull)
			wantTold(t, g, len(data), 1, 10)
		}
	}
}

// P13.2: a part with which all would have Bytes bytes, and one byte more, of one gathering and of several; also where its gathering begins with it: then that goes.
func TestPutBytes(t *testing.T) {
	c := api.GatherConf{Most: 3, Bytes: 32, Parts: 9, Time: 10}
	g := having(t, c, at(8, of(16), true))
	wantError(t, g, at(24, of(17), false), 0, api.ErrFull)
	wantError(t, g, at(24, of(24), true), 0, api.ErrFull)
	wantTold(t, g, 16, 1, 10)
	wantPart(t, g, at(24, of(16), false), 0)
	wantTold(t, g, 32, 1, 10)
	wantError(t, g, first, 0, api.ErrFull)
	wantError(t, g, first.id(2), 0, api.ErrFull)
	wantError(t, g, at(8, "x", false).id(2), 0, api.ErrFull)
	wantTold(t, g, 32, 1, 10)
	wantPart(t, g, at(8, "", false).id(2), 0) // which has none
	wantTold(t, g, 32, 2, 10)

	g = having(t, c, at(8, of(16), true))
	wantError(t, g, at(8, of(17), false).id(2), 4, api.ErrFull)
	wantTold(t, g, 16, 1, 10)
	wantPart(t, g, at(8, of(16), false).id(2), 4)
	wantTold(t, g, 32, 2, 10)

	// With which it would be whole: one byte more, and just as many; what was refused is not there.
	g = having(t, c, first, at(8, of(8), true))
	wantError(t, g, at(16, of(17), false), 0, api.ErrFull)
	wantTold(t, g, 16, 1, 10)
	wantWhole(t, g, at(16, of(16), false), 0, plain, of(27)[:8]+of(8)+of(16))

	// The least bound.
	g = made(t, api.GatherConf{Most: 1, Bytes: 1, Parts: 1, Time: 10})
	wantError(t, g, first, 0, api.ErrFull)
	wantError(t, g, at(8, "xy", false), 0, api.ErrFull)
	wantTold(t, g, 0, 0, -1)
	wantPart(t, g, at(8, "x", false), 0)
	wantTold(t, g, 1, 1, 10)
}

// P13.2: a gathering that began with a part that was refused went: the next one of it begins one, at its own time, and in its own place.
func TestRefusedFirstPartBeginsNothing(t *testing.T) {
	g := having(t, api.GatherConf{Most: 3, Bytes: 24, Parts: 9, Time: 10}, first.id(1))
	wantError(t, g, at(0, of(24), true), 2, api.ErrFull)
	wantTold(t, g, 8, 1, 10)
	wantPart(t, g, first.id(2), 3)
	wantPart(t, g, first, 4)
	wantTick(t, g, 13, first.id(1).h, first.id(2).h)
	wantTold(t, g, 8, 1, 14)
	wantTick(t, g, 14, plain)
}

// P13.2: as many gatherings with as many bytes as there can be, which are fewer than the greatest bound.
func TestPutGreatestBytes(t *testing.T) {
	g := made(t, api.GatherConf{Most: api.MaxGather, Bytes: 1 << 26, Parts: api.MaxParts, Time: 10})
	big := piece{api.Head{More: true}, of(65512)}
	for i := range api.MaxGather {
		wantPart(t, g, big.id(uint16(i)), 0)
	}
	wantTold(t, g, 65512*api.MaxGather, api.MaxGather, 10)
	if l := g.Tick(10); len(l) != api.MaxGather {
		t.Errorf("%d heads", len(l))
	}
	wantTold(t, g, 0, 0, -1)
}

// P13.2: parts in each order; the head of the one at 0 is answered, without More, whatever comes when.
func TestEachOrder(t *testing.T) {
	data := of(43)
	l := []piece{at(0, data[:8], true), at(8, data[8:24], true), at(24, data[24:32], true), at(32, data[32:40], true), at(40, data[40:], false)}
	for i := range l {
		if i > 0 {
			l[i].h.TTL, l[i].h.Tos, l[i].h.Hold, l[i].h.Opts = uint8(i), uint8(10+i), false, "\x87\x04ab"
		}
	}
	for _, o := range orders(len(l)) {
		g := made(t, roomy)
		held := 0
		for n, i := range o {
			if n == len(o)-1 {
				wantWhole(t, g, l[i], int64(n), plain, data)
				wantTold(t, g, 0, 0, -1)
				break
			}
			wantPart(t, g, l[i], int64(n))
			held += len(l[i].data)
			wantTold(t, g, held, 1, 10)
			wantError(t, g, l[i], int64(n), api.ErrThere)
		}
		if t.Failed() {
			t.Fatal(o)
		}
	}
}

// P13.2: two parts, and an end without data, and one told twice, in each order.
func TestEndsWithoutData(t *testing.T) {
	for _, o := range orders(2) {
		l := []piece{at(0, of(24), true), end}
		wantWhole(t, having(t, roomy, l[o[0]]), l[o[1]], 0, plain, of(24))
	}
	l := []piece{at(0, of(8), true), at(8, of(24)[8:], false), end}
	for _, o := range orders(3) {
		g := made(t, roomy)
		seen := 0
		for _, i := range o {
			seen |= 1 << i
			if seen&3 == 3 {
				wantWhole(t, g, l[i], 0, plain, of(8)+of(24)[8:])
				break
			}
			wantPart(t, g, l[i], 0)
		}
	}
}

// P13.2: nothing is whole without the part at 0, without an end, and with a gap.
func TestNothingIsWholeTooEarly(t *testing.T) {
	data := of(64)
	var l []piece
	for i := range 8 {
		l = append(l, at(8*i, data[8*i:8*i+8], i < 7))
	}
	for wanting := range l {
		for _, back := range []bool{false, true} {
			g := made(t, roomy)
			rest := slices.Delete(slices.Clone(l), wanting, wanting+1)
			if back {
				slices.Reverse(rest)
			}
			for _, p := range rest {
				wantPart(t, g, p, 0)
			}
			wantTold(t, g, 56, 1, 10)
			wantWhole(t, g, l[wanting], 0, plain, data)
		}
	}
}

// P13.2: gatherings that are unlike in From, To, Proto or ID alone are nobody else's; what else is unlike does not count.
func TestUnlikeGatherings(t *testing.T) {
	sets := []func(h *api.Head){
		func(h *api.Head) {},
		func(h *api.Head) { h.From++ },
		func(h *api.Head) { h.To++ },
		func(h *api.Head) { h.Proto++ },
		func(h *api.Head) { h.ID++ },
		func(h *api.Head) { h.From, h.To = h.To, h.From },
		func(h *api.Head) { h.From ^= 1 << 31 },
		func(h *api.Head) { h.ID ^= 1 << 15 },
	}
	g := made(t, roomy)
	for i, set := range sets {
		wantPart(t, g, at(0, strings.Repeat(string(rune('a'+i)), 8), true).with(set), int64(i))
		wantTold(t, g, 8*(i+1), i+1, 10)
	}
	for i, set := range slices.Backward(sets) {
		front := plain
		set(&front)
		wantWhole(t, g, at(8, "end", false).with(set), 8, front, strings.Repeat(string(rune('a'+i)), 8)+"end")
		wantTold(t, g, 8*i, i, map[bool]int64{true: 10, false: -1}[i > 0])
	}
	for _, set := range []func(h *api.Head){
		func(h *api.Head) { h.Tos++ },
		func(h *api.Head) { h.TTL++ },
		func(h *api.Head) { h.Hold = !h.Hold },
		func(h *api.Head) { h.Opts = "\x01\x01\x01\x01" },
	} {
		wantWhole(t, having(t, roomy, first), at(8, "end", false).with(set), 0, plain, first.data+"end")
	}
}

// P13.2: one that spoils spoils no other one.
func TestSpoilsItsOwnAlone(t *testing.T) {
	g := having(t, roomy, first.id(1), first, middle.id(1), middle)
	wantError(t, g, at(8, of(8), true), 1, api.ErrState)
	wantTold(t, g, 24, 2, 10)
	wantError(t, g, last, 1, api.ErrState)
	wantWhole(t, g, last.id(1), 1, first.id(1).h, of(27))
	wantTold(t, g, 0, 1, 10)
}

// P13.3: Tick ahead of what is over, at it, and behind it.
func TestTickAtTimes(t *testing.T) {
	for _, late := range []int64{0, 1, 700, 1 << 43} {
		g := made(t, small)
		wantPart(t, g, first, 5)
		wantPart(t, g, middle, 14) // which makes it last no longer
		wantTick(t, g, 14)
		wantTold(t, g, 24, 1, 15)
		wantTick(t, g, 15+late, plain)
		wantTold(t, g, 0, 0, -1)
		wantTick(t, g, 15+late)
		wantTick(t, g, 1<<44)
	}
	g := made(t, api.GatherConf{Most: 1, Bytes: 100, Parts: 9, Time: 1})
	wantPart(t, g, first, 0)
	wantTick(t, g, 0)
	wantTick(t, g, 1, plain)
	g = made(t, api.GatherConf{Most: 1, Bytes: 100, Parts: 9, Time: 1 << 40})
	wantPart(t, g, first, 7)
	wantTick(t, g, 1<<40+6)
	wantTick(t, g, 1<<40+7, plain)
}

// P13.3: several at once, in the order in which they began, whatever came when: of which one has no part at 0, one is spoilt, one has its head by a part that came late, and one is not over.
func TestTickOfSeveral(t *testing.T) {
	g := made(t, roomy)
	wantPart(t, g, middle.id(9), 1)
	wantPart(t, g, middle.id(3), 1)
	wantPart(t, g, first.id(7), 2)
	wantPart(t, g, first.id(1), 2)
	wantPart(t, g, first.id(8), 2)
	wantPart(t, g, first.id(2), 3)
	wantPart(t, g, first.id(4), 4)
	wantPart(t, g, last.id(7), 5)
	wantPart(t, g, first.id(9), 6)
	wantError(t, g, at(0, of(16), true).id(1), 6, api.ErrState)
	wantWhole(t, g, at(8, "x", false).id(8), 7, first.id(8).h, first.data+"x")
	wantPart(t, g, first.id(8), 7) // a new one, which began last
	wantTold(t, g, 75, 7, 11)
	wantTick(t, g, 10)
	wantTick(t, g, 13, first.id(9).h, first.id(7).h, first.id(2).h)
	wantTold(t, g, 16, 2, 14)
	wantTick(t, g, 14, first.id(4).h)
	wantTold(t, g, 8, 1, 17)
	wantTick(t, g, 99, first.id(8).h)
	wantTold(t, g, 0, 0, -1)
}

// P13.3: a spoilt one goes when it would have, and has no head, though it had one.
func TestTickOfSpoilt(t *testing.T) {
	for _, l := range [][]piece{{first}, {middle}, {first, middle}} {
		g := made(t, small)
		for _, p := range l {
			wantPart(t, g, p, 3)
		}
		wantError(t, g, at(0, of(16), true), 9, api.ErrState)
		wantError(t, g, first, 12, api.ErrState)
		wantTick(t, g, 12)
		wantTold(t, g, 0, 1, 13)
		wantTick(t, g, 13)
		wantTold(t, g, 0, 0, -1)
	}
}

// P13.3: behind Tick a packet begins anew: what was of it is forgotten, and so is that it was spoilt.
func TestPutBehindTick(t *testing.T) {
	g := having(t, small, first, middle)
	wantPart(t, g, middle.id(2), 0)
	wantError(t, g, at(8, of(8), true).id(2), 0, api.ErrState)
	wantTick(t, g, 10, plain)
	wantPart(t, g, last, 10)
	wantTold(t, g, 3, 1, 20)
	wantPart(t, g, at(8, of(8), true).id(2), 11)
	wantTold(t, g, 11, 2, 20)
	wantPart(t, g, middle, 12)
	wantWhole(t, g, first, 12, plain, of(27))
	wantTold(t, g, 8, 1, 21)
	// What is over, but for which no Tick came, is there.
	wantPart(t, g, first.id(2), 500)
	wantTick(t, g, 500, first.id(2).h)
}

// P13.1, P13.2, P13.3: times that go back, below 0, and above 2^44, in Put and Tick.
func TestTimes(t *testing.T) {
	for _, c := range []struct{ first, now, want int64 }{
		{0, 0, 0}, {0, -1, 0}, {0, math.MinInt64, 0}, {-5, -5, 0}, {-5, 3, 3}, {math.MinInt64, math.MinInt64, 0},
		{100, 99, 100}, {100, 100, 100}, {100, 101, 101}, {100, 0, 100}, {100, -1, 100}, {100, math.MinInt64, 100},
		{0, 1<<44 - 1, 1<<44 - 1}, {0, 1 << 44, 1 << 44}, {0, 1<<44 + 1, 1 << 44}, {0, math.MaxInt64, 1 << 44},
		{1<<44 + 1, 5, 1 << 44}, {math.MaxInt64, math.MaxInt64, 1 << 44}, {math.MaxInt64, math.MinInt64, 1 << 44},
	} {
		calls := []func(g *Gather, now int64){
			func(g *Gather, now int64) { g.Tick(now) },
			func(g *Gather, now int64) { g.Put(api.Head{ID: 1}, "whole", now) },
			func(g *Gather, now int64) { g.Put(first.id(1).h, first.data, now) },
			func(g *Gather, now int64) {
				g.Put(first.id(1).h, first.data, math.MinInt64)
				g.Put(middle.id(1).h, middle.data, now)
			},
			func(g *Gather, now int64) {
				g.Put(first.id(1).h, first.data, math.MinInt64)
				g.Put(at(8, "x", false).id(1).h, "x", now)
			},
		}
		for i, call := range calls {
			g := made(t, roomy)
			call(g, c.first)
			g.Put(middle.h, middle.data, c.now)
			g.Tick(math.MinInt64)
			// Those of the first call began no later: the one that began last is over last.
			over := g.gatherings[packetOf(plain)].over
			if over != c.want+10 {
				t.Errorf("call %d at %d, Put at %d: over at %d, want %d", i, c.first, c.now, over, c.want+10)
			}
		}
		g := made(t, roomy)
		wantTick(t, g, c.first)
		wantPart(t, g, first, c.now)
		wantTold(t, g, 8, 1, c.want+10)
	}
}

// P13.3: a Tick whose time goes back does what is due at the last one.
func TestTickGoesBack(t *testing.T) {
	g := having(t, small, first)
	wantPart(t, g, first.id(2), 12)
	wantTick(t, g, 0, plain)
	wantTold(t, g, 8, 1, 22)
	wantTick(t, g, -1)
	wantTick(t, g, 21)
	wantTick(t, g, 22, first.id(2).h)
}

// P13.1: at the greatest time one begins as ever, and is over when Time has passed, though no Tick can tell of that.
func TestGreatestTimes(t *testing.T) {
	g := made(t, api.GatherConf{Most: 2, Bytes: 100, Parts: 3, Time: 1 << 40})
	wantPart(t, g, first, 1<<44-1<<40)
	wantPart(t, g, first.id(2), math.MaxInt64)
	wantTold(t, g, 16, 2, 1<<44)
	wantTick(t, g, 1<<44, plain)
	wantTold(t, g, 8, 1, 1<<44+1<<40)
	wantTick(t, g, math.MaxInt64)
	wantWhole(t, g, at(8, "x", false).id(2), math.MaxInt64, first.id(2).h, first.data+"x")
}

// R2: what is refused changes nothing, the time neither; but for what spoils.
func TestRefusedPutChangesNothing(t *testing.T) {
	g := having(t, small, first, middle.id(2))
	for range 2 {
		wantError(t, g, piece{api.Head{At: 1}, ""}, 700, api.ErrArg)
		wantError(t, g, piece{first.h, ""}, 700, api.ErrArg)
		wantError(t, g, first.id(3), 700, api.ErrFull)
		wantError(t, g, first, 700, api.ErrThere)
		wantError(t, g, at(8, of(24), true), 700, api.ErrFull)
		wantTold(t, g, 24, 2, 10)
		wantTick(t, g, 9)
	}
	wantError(t, g, at(16, of(8), true).id(2), 700, api.ErrState)
	wantError(t, g, middle.id(2), 700, api.ErrState)
	wantTold(t, g, 8, 2, 10)
	wantTick(t, g, 9)
	wantPart(t, g, middle, 9)
	wantWhole(t, g, last, 9, plain, of(27))
	wantPart(t, g, first, 9)
	wantTick(t, g, 10)
	wantTold(t, g, 8, 1, 19)
}

// model is what the promises say, byte by byte, without regard for how long it takes.
type model struct {
	c    api.GatherConf
	list []*modelOne
	last int64
}

type modelOne struct {
	of     [4]uint64
	parts  []piece // as they came
	over   int64
	spoilt bool
}

func modelOf(h api.Head) [4]uint64 {
	return [4]uint64{uint64(h.From), uint64(h.To), uint64(h.Proto), uint64(h.ID)}
}

func (m *model) clock(now int64) {
	if now > 1<<44 {
		now = 1 << 44
	}
	if now > m.last {
		m.last = now
	}
}

func (m *model) held() int {
	n := 0
	for _, x := range m.list {
		for _, p := range x.parts {
			n += len(p.data)
		}
	}
	return n
}

// bytes are those that are there by their places, the end, or -1, and the head of the part at 0, if that is there.
func (x *modelOne) bytes() (there map[int]byte, end int, head *api.Head) {
	there, end = map[int]byte{}, -1
	for _, p := range x.parts {
		for i := range len(p.data) {
			there[p.h.At+i] = p.data[i]
		}
		if !p.h.More {
			end = p.h.At + len(p.data)
		}
		if p.h.At == 0 {
			head = &p.h
		}
	}
	return there, end, head
}

func (x *modelOne) spoils(p piece) bool {
	there, end, _ := x.bytes()
	for _, q := range x.parts {
		if q.h.At == p.h.At {
			return true
		}
	}
	for i := range len(p.data) {
		if _, is := there[p.h.At+i]; is || end >= 0 && p.h.At+i >= end {
			return true
		}
	}
	if p.h.More {
		return false
	}
	for i := range there {
		if i >= p.h.At+len(p.data) {
			return true
		}
	}
	return end >= 0 && end != p.h.At+len(p.data)
}

func (x *modelOne) whole() (api.Head, string, bool) {
	there, end, head := x.bytes()
	if end < 0 || head == nil {
		return api.Head{}, "", false
	}
	b := []byte{}
	for i := range end {
		c, is := there[i]
		if !is {
			return api.Head{}, "", false
		}
		b = append(b, c)
	}
	h := *head
	h.More = false
	return h, string(b), true
}

func (m *model) put(p piece, now int64) (api.Head, string, bool, api.Errno) {
	if _, e := ip4.Encode(p.h, p.data); e != api.OK {
		return api.Head{}, "", false, api.ErrArg
	}
	if p.h.At == 0 && !p.h.More {
		m.clock(now)
		return p.h, p.data, true, api.OK
	}
	i := slices.IndexFunc(m.list, func(x *modelOne) bool { return x.of == modelOf(p.h) })
	if i < 0 && len(m.list) == m.c.Most {
		return api.Head{}, "", false, api.ErrFull
	}
	x := &modelOne{of: modelOf(p.h)}
	if i >= 0 {
		x = m.list[i]
	}
	if x.spoilt {
		return api.Head{}, "", false, api.ErrState
	}
	for _, q := range x.parts {
		if q.h.At == p.h.At && q.data == p.data && q.h.More == p.h.More {
			return api.Head{}, "", false, api.ErrThere
		}
	}
	if x.spoils(p) {
		x.spoilt, x.parts = true, nil
		return api.Head{}, "", false, api.ErrState
	}
	if len(x.parts) == m.c.Parts || m.held()+len(p.data) > m.c.Bytes {
		return api.Head{}, "", false, api.ErrFull
	}
	m.clock(now)
	if i < 0 {
		x.over = m.last + m.c.Time
		m.list = append(m.list, x)
		i = len(m.list) - 1
	}
	x.parts = append(x.parts, p)
	h, data, whole := x.whole()
	if whole {
		m.list = slices.Delete(m.list, i, i+1)
	}
	return h, data, whole, api.OK
}

func (m *model) tick(now int64) (out []api.Head) {
	m.clock(now)
	var stay []*modelOne
	for _, x := range m.list {
		if x.over > m.last {
			stay = append(stay, x)
		} else if _, _, head := x.bytes(); head != nil {
			out = append(out, *head)
		}
	}
	m.list = stay
	return out
}

func (m *model) next() int64 {
	least := int64(-1)
	for _, x := range m.list {
		if least < 0 || x.over < least {
			least = x.over
		}
	}
	return least
}

// anything is a part of one of a few packets, most of which go together with each other.
func (d *drawer) anything() piece {
	kind := d.below(4)
	h := api.Head{ID: uint16(kind), Proto: uint8(kind / 2), From: uint32(kind % 2), TTL: uint8(d.below(3)), At: 8 * d.below(5), More: true}
	data := strings.Repeat(string(rune('a'+kind)), 32)[h.At*32/40:]
	size := 8
	switch d.below(12) {
	case 0:
		size = 16
	case 1:
		data = strings.Repeat("#", 40)
	case 2:
		h.More = false
		size = d.below(10)
	case 3:
		size = d.below(10)
	case 4:
		h.At += d.below(2)
	}
	if h.At == 32 && d.below(6) > 0 {
		h.More = false
		size = min(size, len(data), 3)
	}
	data = data[:min(size, len(data))]
	if h.At == 0 {
		h.Opts = []string{"", "\x01\x01\x01\x01"}[d.below(2)]
	}
	return piece{h, data}
}

// P13.1 to P13.4: whatever is called, in whatever order, it does what the model does, and the bounds hold.
func TestAgainstTheModel(t *testing.T) {
	d := drawer(13)
	counts := map[api.Errno]int{}
	wholes := 0
	for round := range 600 {
		c := api.GatherConf{Most: 1 + d.below(4), Bytes: 1 + d.below(100), Parts: 1 + d.below(6), Time: int64(1 + d.below(40))}
		if round%3 > 0 {
			c = api.GatherConf{Most: 4, Bytes: 1000, Parts: 9, Time: int64(20 + d.below(40))}
		}
		g, m := made(t, c), &model{c: c}
		now := int64(0)
		if round%10 == 0 {
			now = 1<<44 - 100
		}
		for step := range 200 {
			now += int64(d.below(3))
			at := now
			if d.below(8) == 0 {
				at -= int64(d.below(40))
			}
			if d.below(6) == 0 {
				wantTick(t, g, at, m.tick(at)...)
			} else {
				p := d.anything()
				h, data, whole, e := m.put(p, at)
				wantPut(t, g, p, at, h, data, whole, e)
				counts[e]++
				if whole && p.h.At > 0 {
					wholes++
				}
			}
			wantTold(t, g, m.held(), len(m.list), m.next())
			if g.Held() > c.Bytes || g.Len() > c.Most {
				t.Errorf("%d bytes, %d gatherings", g.Held(), g.Len())
			}
			if t.Failed() {
				t.Fatalf("round %d, step %d, %+v", round, step, c)
			}
		}
	}
	for _, e := range []api.Errno{api.OK, api.ErrArg, api.ErrFull, api.ErrState, api.ErrThere} {
		if counts[e] < 1000 {
			t.Errorf("%v was answered %d times", e, counts[e])
		}
	}
	if wholes < 500 {
		t.Errorf("%d were put together", wholes)
	}
}

// packet is a packet that may be written, and is no part.
func (d *drawer) packet() piece {
	opts := []string{"", "\x01\x01\x01\x00", "\x07\x04xy\x83\x04ab", "\x83\x08abcdef"}[d.below(4)]
	h := api.Head{Tos: uint8(d.next()), ID: 7, TTL: uint8(d.next()), Proto: 6, From: 5, To: 4, Opts: opts}
	return piece{h, d.text(d.below(400))}
}

// parts are those of a packet that is cut, some of which are cut again, and some of these once more.
func (d *drawer) parts(t *testing.T, p piece) []piece {
	t.Helper()
	l := []piece{p}
	for range 3 {
		var next []piece
		for _, q := range l {
			if d.below(3) == 0 {
				next = append(next, q)
				continue
			}
			out, e := frag.Cut(q.h, q.data, 36+d.below(200))
			if e != api.OK {
				t.Fatalf("Cut(%+v, %d bytes): %v", q.h, len(q.data), e)
			}
			for _, s := range out {
				h, data, e := ip4.Decode(s)
				if e != api.OK {
					t.Fatalf("Decode: %v", e)
				}
				next = append(next, piece{h, data})
			}
		}
		l = next
	}
	return l
}

// P13.4: packets that are unlike in one thing alone are cut, some of their parts are cut again, and come in whatever order, mixed, some twice: each packet is put together just once, just as it was; what comes behind that is over by and by.
func TestCutIsPutTogether(t *testing.T) {
	d := drawer(134)
	for round := range 400 {
		c := api.GatherConf{Most: 8, Bytes: 1 << 20, Parts: api.MaxParts, Time: 1000}
		g := made(t, c)
		want := map[api.Head]string{}
		var all []piece
		for _, set := range []func(h *api.Head){
			func(h *api.Head) {}, func(h *api.Head) { h.From++ }, func(h *api.Head) { h.To++ }, func(h *api.Head) { h.Proto++ }, func(h *api.Head) { h.ID++ },
		} {
			p := d.packet().with(set)
			want[p.h] = p.data
			l := d.parts(t, p)
			once := d.below(len(l)) // behind the whole one nothing else becomes whole
			for j, q := range l {
				all = append(all, q)
				if j != once && d.below(4) == 0 {
					all = append(all, q)
				}
			}
		}
		got := map[api.Head]string{}
		for now, i := range d.shuffled(len(all)) {
			h, data, whole, e := g.Put(all[i].h, all[i].data, int64(now))
			if e != api.OK && e != api.ErrThere {
				t.Fatalf("round %d: Put(%+v, %.40q): %v", round, all[i].h, all[i].data, e)
			}
			if _, twice := got[h]; whole && twice {
				t.Errorf("%+v is put together twice", h)
			}
			if whole {
				got[h] = data
			}
		}
		if !maps.Equal(got, want) {
			t.Fatalf("round %d: %d packets, or other ones, want %d", round, len(got), len(want))
		}
		g.Tick(int64(len(all)) + 1000)
		wantTold(t, g, 0, 0, -1)
	}
}

// P13.4: the greatest packet that may be, cut into as many parts as may be, from the front, from behind and mixed.
func TestGreatestPacket(t *testing.T) {
	h := api.Head{ID: 5, From: 1, To: 2, TTL: 64}
	data := of(65515)
	l, e := frag.Cut(h, data, 20+264)
	if e != api.OK || len(l) > api.MaxParts {
		t.Fatalf("%d parts, %v", len(l), e)
	}
	d := drawer(65515)
	front := d.shuffled(len(l))
	slices.Sort(front)
	back := slices.Clone(front)
	slices.Reverse(back)
	for _, o := range [][]int{front, back, d.shuffled(len(l))} {
		g := made(t, api.GatherConf{Most: 1, Bytes: 65515, Parts: len(l), Time: 10})
		for n, i := range o {
			part, text, e := ip4.Decode(l[i])
			if e != api.OK {
				t.Fatal(e)
			}
			if n == len(o)-1 {
				wantWhole(t, g, piece{part, text}, 0, h, data)
			} else {
				wantPart(t, g, piece{part, text}, 0)
			}
		}
		wantTold(t, g, 0, 0, -1)
	}
}

// P13.4: whatever comes, the bounds hold, and nothing stays longer than Time.
func TestNothingStaysLonger(t *testing.T) {
	d := drawer(77)
	c := api.GatherConf{Most: 5, Bytes: 60, Parts: 4, Time: 6}
	g := made(t, c)
	for now := int64(0); now < 3000; now++ {
		for range d.below(4) {
			p := d.anything()
			g.Put(p.id(uint16(d.below(9))).h, p.data, now)
			if g.Len() > c.Most || g.Held() > c.Bytes {
				t.Fatalf("%d gatherings, %d bytes", g.Len(), g.Held())
			}
		}
		g.Tick(now)
		if over, is := g.Next(); is && (over <= now || over > now+c.Time) {
			t.Fatalf("at %d: one is over at %d", now, over)
		}
	}
	g.Tick(3000 + c.Time)
	wantTold(t, g, 0, 0, -1)
}

// R3: every method of a nil pointer, and of a value that New did not make.
func TestNilAndNotMade(t *testing.T) {
	not, _ := New(api.GatherConf{})
	for _, g := range []*Gather{nil, new(Gather), {}, not} {
		for range 2 {
			for _, p := range []piece{first, last, end, {api.Head{}, "whole"}, {api.Head{At: 1}, ""}, {api.Head{}, of(1 << 17)}} {
				wantError(t, g, p, 5, api.ErrNil)
			}
			wantTick(t, g, 5)
			wantTick(t, g, 1<<44)
			wantTold(t, g, 0, 0, -1)
		}
	}
}

// R5: answers are no memory of what was handed in, nor is what is kept, and what is changed by who got it changes nothing here.
func TestAnswersAreNewMemory(t *testing.T) {
	shares := func(a, b string) bool {
		from, to := uintptr(unsafe.Pointer(unsafe.StringData(a))), uintptr(unsafe.Pointer(unsafe.StringData(b)))
		return a != "" && from >= to && from < to+uintptr(len(b))
	}
	opts, data := strings.Clone(plain.Opts), of(64)
	wants := func(h api.Head, s string) {
		t.Helper()
		if h.Opts != opts || shares(h.Opts, opts) || shares(s, data) {
			t.Errorf("%+v, %.20q are memory of what was handed in, or others", h, s)
		}
	}
	h := plain
	h.Opts = opts
	g := made(t, roomy)
	whole := h
	whole.More = false
	k, s, _, _ := g.Put(whole, data, 0)
	wants(k, s)
	g.Put(h, data[:32], 0)
	k, s, _, _ = g.Put(at(32, data[32:], false).h, data[32:], 0)
	wants(k, s)
	g.Put(h, data, 0)
	k, s, _, _ = g.Put(at(64, "", false).h, "", 0)
	wants(k, s)
	g.Put(h, data[:32], 0)
	h.ID = 2
	g.Put(h, data[:32], 0)
	h.ID = 3
	g.Put(h, data[:32], 1)
	l := g.Tick(10)
	for _, k := range l {
		wants(k, "")
	}
	_ = append(l[:1], api.Head{}, api.Head{})
	clear(l)
	wantTick(t, g, 11, h)
	if opts != plain.Opts || data != of(64) {
		t.Error("what was handed in is another one")
	}
}

// R6: what is done with an order of calls is the same each time, though a map's order is not.
func TestSameEachTime(t *testing.T) {
	run := func() (l []api.Head) {
		g := made(t, api.GatherConf{Most: 200, Bytes: 1 << 20, Parts: 9, Time: 10})
		d := drawer(3)
		for i := range 150 {
			g.Put(first.id(uint16(d.next())).h, first.data, int64(i/50))
		}
		return append(l, g.Tick(11)...)
	}
	want := run()
	for range 20 {
		if l := run(); !slices.Equal(l, want) {
			t.Fatal("another answer")
		}
	}
	if len(want) != 100 {
		t.Errorf("%d were over", len(want))
	}
}

// R7: the errors are everybody's, and tell their numbers.
func TestErrorsTellTheirNumbers(t *testing.T) {
	g := having(t, api.GatherConf{Most: 1, Bytes: 100, Parts: 1, Time: 10}, first)
	for _, c := range []struct {
		g    *Gather
		p    piece
		want string
	}{
		{nil, first, "error 1"}, {g, piece{first.h, ""}, "error 2"}, {g, first.id(2), "error 6"}, {g, first, "error 7"}, {g, at(0, of(16), true), "error 3"}, {g, piece{api.Head{}, ""}, "error 0"},
	} {
		if _, _, _, e := c.g.Put(c.p.h, c.p.data, 0); e.Error() != c.want {
			t.Errorf("Put(%+v, %.20q): %v, want %s", c.p.h, c.p.data, e, c.want)
		}
	}
}
