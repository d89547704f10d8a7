package route

import (
	"math"
	"slices"
	"testing"

	"stevedore/api"
)

// last is the highest address.
const last uint32 = 1<<32 - 1

// drawer makes numbers that look like chance and are the same each time.
type drawer uint64

func (d *drawer) next() uint64 {
	*d = *d*6364136223846793005 + 1442695040888963407
	return uint64(*d >> 24)
}

func (d *drawer) below(n int) int { return int(d.next() >> 8 % uint64(n)) }

// ip is the address of four numbers.
func ip(a, b, c, d uint32) uint32 { return a<<24 | b<<16 | c<<8 | d }

// by is a route with a way of its own, by which it is told from others of its prefix.
func by(net uint32, bits int, via uint32) api.Route {
	return api.Route{Net: net, Bits: bits, Via: via, Card: int(via % 5), Src: ^via}
}

// made is a table with these routes.
func made(t *testing.T, l ...api.Route) *Table {
	t.Helper()
	x := New()
	wantAdds(t, x, l...)
	return x
}

// many are n routes of 24 bits, rising.
func many(n int) []api.Route {
	var l []api.Route
	for i := range uint32(n) {
		l = append(l, by(ip(10, i>>8, i&255, 0), 24, i))
	}
	return l
}

// wantAdd does an Add, and holds its answer against what is wanted.
func wantAdd(t *testing.T, x *Table, r api.Route, want api.Errno) {
	t.Helper()
	if e := x.Add(r); e != want {
		t.Errorf("Add(%+v): %v, want %v", r, e, want)
	}
}

// wantAdds adds routes, none of which may be refused.
func wantAdds(t *testing.T, x *Table, l ...api.Route) {
	t.Helper()
	for _, r := range l {
		wantAdd(t, x, r, api.OK)
	}
}

// wantDrop does a Drop, and holds its answer against what is wanted.
func wantDrop(t *testing.T, x *Table, net uint32, bits int, want bool) {
	t.Helper()
	if is := x.Drop(net, bits); is != want {
		t.Errorf("Drop(%x, %d): %v, want %v", net, bits, is, want)
	}
}

// wantFind holds the route of an address against what is wanted.
func wantFind(t *testing.T, x *Table, ip uint32, want api.Route) {
	t.Helper()
	if r, is := x.Find(ip); r != want || !is {
		t.Errorf("Find(%x): %+v, %v, want %+v", ip, r, is, want)
	}
}

// wantNone wants that an address has no route.
func wantNone(t *testing.T, x *Table, ips ...uint32) {
	t.Helper()
	for _, ip := range ips {
		if r, is := x.Find(ip); r != (api.Route{}) || is {
			t.Errorf("Find(%x): %+v, %v, want none", ip, r, is)
		}
	}
}

// wantAll holds all routes against what is wanted.
func wantAll(t *testing.T, x *Table, want ...api.Route) {
	t.Helper()
	if l := x.All(); !slices.Equal(l, want) {
		t.Errorf("All(): %+v, want %+v", l, want)
	}
}

// within tells whether an address is in a route's prefix, as whole numbers have it: so many of its first bits, the others cut off.
func within(ip uint32, r api.Route) bool {
	behind := 32 - r.Bits
	return uint64(ip)>>behind == uint64(r.Net)>>behind
}

// model is what the promises say, in a list, without regard for how long it takes.
type model struct{ l []api.Route }

func (m *model) place(net uint32, bits int) int {
	return slices.IndexFunc(m.l, func(r api.Route) bool { return r.Net == net && r.Bits == bits })
}

func (m *model) add(r api.Route) api.Errno {
	if r.Bits < 0 || r.Bits > 32 || r.Card < 0 || uint64(r.Net)%(1<<(32-r.Bits)) != 0 {
		return api.ErrArg
	}
	if i := m.place(r.Net, r.Bits); i >= 0 {
		m.l[i] = r
		return api.OK
	}
	if len(m.l) == 1024 {
		return api.ErrFull
	}
	m.l = append(m.l, r)
	return api.OK
}

func (m *model) drop(net uint32, bits int) bool {
	i := m.place(net, bits)
	if i < 0 {
		return false
	}
	m.l = slices.Delete(m.l, i, i+1)
	return true
}

func (m *model) find(ip uint32) (best api.Route, is bool) {
	for _, r := range m.l {
		if within(ip, r) && (!is || r.Bits > best.Bits) {
			best, is = r, true
		}
	}
	return best, is
}

// all goes through each number of bits on its own, so that it leans on no order of two keys.
func (m *model) all() (l []api.Route) {
	for bits := 32; bits >= 0; bits-- {
		from := len(l)
		for _, r := range m.l {
			if r.Bits != bits {
				continue
			}
			at := len(l)
			for at > from && l[at-1].Net > r.Net {
				at--
			}
			l = slices.Insert(l, at, r)
		}
	}
	return l
}

// edges are the first and the last address of each prefix, those next to them, and one within; and some that are in none.
func edges(l []api.Route) []uint32 {
	out := []uint32{0, 1, ip(10, 1, 2, 3), 1<<31 - 1, 1 << 31, last - 1, last}
	for _, r := range l {
		end := r.Net | uint32(uint64(1)<<(32-r.Bits)-1)
		out = append(out, r.Net-1, r.Net, r.Net+1, r.Net+(end-r.Net)/2, end-1, end, end+1)
	}
	return out
}

// found is what a table has for each address.
func found(x *Table, ips []uint32) []api.Route {
	var l []api.Route
	for _, ip := range ips {
		r, is := x.Find(ip)
		if !is {
			r = api.Route{Bits: -1}
		}
		l = append(l, r)
	}
	return l
}

// The chapter's examples, row by row.
func TestExamples(t *testing.T) {
	x := New()
	at := ip(10, 1, 2, 3)
	all := api.Route{Via: ip(9, 9, 9, 9)}
	wantAdds(t, x, all)
	wantFind(t, x, at, all)
	near := api.Route{Net: ip(10, 1, 0, 0), Bits: 16, Card: 1}
	wantAdds(t, x, near)
	wantFind(t, x, at, near)
	wantAdds(t, x, api.Route{Net: ip(10, 1, 2, 4), Bits: 32})
	wantFind(t, x, at, near)
}

// P11.1: New has no routes, and two know nothing of each other.
func TestNew(t *testing.T) {
	x, y := New(), New()
	if x == nil || y == nil {
		t.Fatal("nil")
	}
	for range 2 {
		wantAll(t, x)
		wantNone(t, x, edges(nil)...)
		wantDrop(t, x, 0, 0, false)
	}
	wantAdds(t, x, by(0, 0, 1))
	wantAll(t, y)
	wantNone(t, y, 0, last)
	wantDrop(t, y, 0, 0, false)
	wantAdds(t, y, by(0, 0, 2))
	wantAll(t, x, by(0, 0, 1))
	wantAll(t, y, by(0, 0, 2))
}

// P11.1: which routes may be: Bits, Card, and Nets with and without bits behind the first Bits. What is refused is not there.
func TestAddWhatMayBe(t *testing.T) {
	for _, c := range []struct {
		r    api.Route
		want api.Errno
	}{
		{api.Route{Bits: math.MinInt}, api.ErrArg}, {api.Route{Bits: -32}, api.ErrArg}, {api.Route{Bits: -1}, api.ErrArg},
		{api.Route{Bits: 0}, api.OK}, {api.Route{Bits: 1}, api.OK}, {api.Route{Bits: 31}, api.OK}, {api.Route{Bits: 32}, api.OK},
		{api.Route{Bits: 33}, api.ErrArg}, {api.Route{Bits: 64}, api.ErrArg}, {api.Route{Bits: 1 << 32}, api.ErrArg}, {api.Route{Bits: math.MaxInt}, api.ErrArg},

		{api.Route{Card: math.MinInt}, api.ErrArg}, {api.Route{Card: -1}, api.ErrArg},
		{api.Route{Card: 0}, api.OK}, {api.Route{Card: 1}, api.OK}, {api.Route{Card: math.MaxInt}, api.OK},
		{api.Route{Net: 8, Bits: 32, Card: -1}, api.ErrArg}, {api.Route{Net: 8, Bits: 32, Card: 0}, api.OK},

		{api.Route{Net: 1, Bits: 0}, api.ErrArg}, {api.Route{Net: 1 << 31, Bits: 0}, api.ErrArg}, {api.Route{Net: last, Bits: 0}, api.ErrArg},
		{api.Route{Net: 1 << 31, Bits: 1}, api.OK}, {api.Route{Net: 1 << 30, Bits: 1}, api.ErrArg}, {api.Route{Net: 1<<31 | 1, Bits: 1}, api.ErrArg},
		{api.Route{Net: ip(10, 1, 0, 0), Bits: 16}, api.OK}, {api.Route{Net: ip(10, 1, 128, 0), Bits: 16}, api.ErrArg}, {api.Route{Net: ip(10, 1, 0, 1), Bits: 16}, api.ErrArg},
		{api.Route{Net: ip(10, 1, 128, 0), Bits: 17}, api.OK}, {api.Route{Net: ip(10, 1, 0, 0), Bits: 15}, api.ErrArg},
		{api.Route{Net: 2, Bits: 31}, api.OK}, {api.Route{Net: 1, Bits: 31}, api.ErrArg}, {api.Route{Net: last, Bits: 31}, api.ErrArg},
		{api.Route{Net: 0, Bits: 32}, api.OK}, {api.Route{Net: 1, Bits: 32}, api.OK}, {api.Route{Net: last, Bits: 32}, api.OK},

		{api.Route{Net: last, Bits: 33}, api.ErrArg}, {api.Route{Net: last, Bits: -1}, api.ErrArg},
		{api.Route{Via: last, Src: last}, api.OK}, {api.Route{Net: 4, Bits: 30, Via: 4, Src: 5}, api.OK}, {api.Route{Net: 1, Bits: 30, Via: 1}, api.ErrArg},
	} {
		x := New()
		wantAdd(t, x, c.r, c.want)
		if c.want == api.OK {
			wantAll(t, x, c.r)
			wantFind(t, x, c.r.Net, c.r)
		} else {
			wantAll(t, x)
			wantNone(t, x, c.r.Net, 0, last)
		}
	}
}

// P11.1: each single bit is one behind the first Bits, or is not.
func TestAddBits(t *testing.T) {
	for bits := -1; bits <= 33; bits++ {
		for place := range 32 {
			net, want := uint32(1)<<(31-place), api.ErrArg
			if bits <= 32 && place < bits {
				want = api.OK
			}
			wantAdd(t, New(), by(net, bits, 7), want)
		}
	}
}

// P11.1: a route that may not be for two reasons is one error, and changes nothing.
func TestAddOfTwoReasons(t *testing.T) {
	was := by(ip(10, 0, 0, 0), 8, 3)
	x := made(t, was)
	for _, r := range []api.Route{
		{Bits: -1, Card: -1}, {Bits: 33, Card: -1}, {Net: 1, Bits: 0, Card: -1}, {Net: ip(10, 0, 0, 1), Bits: 8, Card: -1}, {Net: last, Bits: -1}, {Net: last, Bits: 33, Card: -5},
	} {
		wantAdd(t, x, r, api.ErrArg)
		wantAll(t, x, was)
	}
}

// P11.1: a route takes the place of the one of its prefix, with all its fields, and of no other one.
func TestAddInThePlaceOfOne(t *testing.T) {
	other, wide, narrow := by(ip(10, 2, 0, 0), 16, 8), by(ip(10, 0, 0, 0), 8, 9), by(ip(10, 1, 0, 0), 24, 10)
	x := made(t, other, wide, narrow)
	for _, r := range []api.Route{
		{Net: ip(10, 1, 0, 0), Bits: 16, Via: 1, Card: 1, Src: 1},
		{Net: ip(10, 1, 0, 0), Bits: 16, Via: 2, Card: 1, Src: 1},
		{Net: ip(10, 1, 0, 0), Bits: 16, Via: 2, Card: 2, Src: 1},
		{Net: ip(10, 1, 0, 0), Bits: 16, Via: 2, Card: 2, Src: 2},
		{Net: ip(10, 1, 0, 0), Bits: 16},
	} {
		wantAdds(t, x, r, r)
		wantFind(t, x, ip(10, 1, 2, 3), r)
		wantAll(t, x, narrow, r, other, wide)
	}
	// One that is refused leaves the one of its prefix as it was.
	wantAdd(t, x, api.Route{Net: ip(10, 1, 0, 0), Bits: 16, Via: 5, Card: -1}, api.ErrArg)
	wantFind(t, x, ip(10, 1, 2, 3), api.Route{Net: ip(10, 1, 0, 0), Bits: 16})
	// One Drop is enough for all that took its place.
	wantDrop(t, x, ip(10, 1, 0, 0), 16, true)
	wantDrop(t, x, ip(10, 1, 0, 0), 16, false)
	wantAll(t, x, narrow, other, wide)
}

// P11.1: the last place, and none behind it but for a prefix that is there; what may not be is told ahead of that.
func TestAddOfMany(t *testing.T) {
	l := many(api.MaxRoutes)
	x := made(t, l[:api.MaxRoutes-1]...)
	wantAdds(t, x, l[5]) // one that is there takes no place
	wantAll(t, x, l[:api.MaxRoutes-1]...)
	wantAdds(t, x, l[api.MaxRoutes-1])
	wantAll(t, x, l...)

	for _, r := range []api.Route{by(0, 0, 1), by(ip(10, 0, 0, 0), 23, 1), by(ip(10, 0, 0, 0), 25, 1), by(ip(11, 0, 0, 0), 24, 1)} {
		wantAdd(t, x, r, api.ErrFull)
	}
	for _, r := range []api.Route{{Bits: -1}, {Bits: 33}, {Card: -1}, {Net: 1}, {Net: l[0].Net, Bits: 24, Card: -1}, {Net: l[0].Net + 1, Bits: 24}} {
		wantAdd(t, x, r, api.ErrArg)
	}
	wantAll(t, x, l...)
	wantNone(t, x, 0, ip(11, 0, 0, 0), last)
	wantFind(t, x, l[0].Net, l[0])

	for _, i := range []int{0, 500, api.MaxRoutes - 1} {
		l[i] = by(l[i].Net, 24, 99_999)
		wantAdds(t, x, l[i])
	}
	wantAll(t, x, l...)
}

// P11.1: a Drop of a full table makes one place, just one.
func TestDropOfAFullTable(t *testing.T) {
	l := many(api.MaxRoutes)
	x := made(t, l...)
	a, b := by(0, 0, 1), by(ip(11, 0, 0, 0), 24, 2)
	wantDrop(t, x, b.Net, b.Bits, false)
	wantAdd(t, x, a, api.ErrFull)
	wantDrop(t, x, l[7].Net, 24, true)
	wantAdds(t, x, a)
	wantAdd(t, x, b, api.ErrFull)
	wantAdd(t, x, l[7], api.ErrFull)
	wantFind(t, x, l[7].Net, a)
	wantAll(t, x, append(slices.Delete(slices.Clone(l), 7, 8), a)...)
	wantDrop(t, x, 0, 0, true)
	wantAdds(t, x, l[7])
	wantAll(t, x, l...)
	for _, r := range l {
		wantDrop(t, x, r.Net, r.Bits, true)
	}
	wantAll(t, x)
}

// P11.1: Drop of just that prefix, once.
func TestDrop(t *testing.T) {
	l := []api.Route{by(ip(10, 1, 2, 3), 32, 1), by(ip(10, 1, 0, 0), 24, 2), by(ip(10, 1, 0, 0), 16, 3), by(ip(128, 0, 0, 0), 1, 4), by(0, 0, 5)}
	for i, r := range l {
		x := made(t, l...)
		wantDrop(t, x, r.Net, r.Bits, true)
		rest := slices.Delete(slices.Clone(l), i, i+1)
		wantAll(t, x, rest...)
		wantDrop(t, x, r.Net, r.Bits, false)
		wantAll(t, x, rest...)
		wantAdds(t, x, r)
		wantAll(t, x, l...)
	}
}

// P11.1: Drop of what is not there: other Nets, other Bits of the same Net, Bits that none has, Nets with bits behind the first Bits.
func TestDropOfNone(t *testing.T) {
	l := []api.Route{by(ip(10, 1, 2, 3), 32, 1), by(ip(10, 1, 0, 0), 16, 2), by(ip(128, 0, 0, 0), 1, 3), by(0, 0, 4)}
	x := made(t, l...)
	for _, p := range []struct {
		net  uint32
		bits int
	}{
		{ip(10, 2, 0, 0), 16}, {ip(10, 1, 2, 4), 32}, {ip(10, 1, 2, 2), 32}, {0, 32}, {0, 1}, {last, 32},
		{ip(10, 1, 0, 0), 15}, {ip(10, 1, 0, 0), 17}, {ip(10, 1, 0, 0), 32}, {ip(10, 1, 0, 0), 0}, {ip(10, 1, 2, 3), 31}, {ip(128, 0, 0, 0), 0}, {ip(128, 0, 0, 0), 2},
		{0, -1}, {0, -32}, {0, math.MinInt}, {ip(10, 1, 2, 3), 33}, {ip(10, 1, 2, 3), 64}, {ip(10, 1, 2, 3), math.MaxInt}, {ip(10, 1, 0, 0), 16 + 1<<32}, {0, 1 << 32}, {0, 256}, {ip(10, 1, 0, 0), -16},
		{ip(10, 1, 0, 1), 16}, {ip(10, 1, 128, 0), 16}, {ip(10, 1, 2, 3), 16}, {1, 0}, {last, 0}, {last, 1}, {1 << 31, 0},
	} {
		wantDrop(t, x, p.net, p.bits, false)
		wantAll(t, x, l...)
	}
}

// P11.1: All by Bits falling, then by Net rising, on both sides of the highest bit, in whatever order they came.
func TestAll(t *testing.T) {
	one := []api.Route{by(0, 8, 1), by(ip(1, 0, 0, 0), 8, 9), by(ip(10, 0, 0, 0), 8, 3), by(ip(127, 0, 0, 0), 8, 7), by(ip(128, 0, 0, 0), 8, 2), by(ip(255, 0, 0, 0), 8, 5)}
	several := []api.Route{
		by(0, 32, 20), by(5, 32, 6), by(1<<31-1, 32, 5), by(1<<31, 32, 4), by(last, 32, 3),
		by(0, 31, 11), by(last-1, 31, 10),
		by(ip(10, 1, 0, 0), 16, 1), by(ip(200, 1, 0, 0), 16, 0),
		by(0, 9, 8), by(0, 8, 9),
		by(0, 1, 2), by(1<<31, 1, 1),
		by(0, 0, 0),
	}
	for _, want := range [][]api.Route{nil, one[:1], one, several} {
		l := slices.Clone(want)
		wantAll(t, made(t, l...), want...)
		slices.Reverse(l)
		wantAll(t, made(t, l...), want...)
		d := drawer(len(l))
		for range 30 {
			for i := range l {
				j := d.below(i + 1)
				l[i], l[j] = l[j], l[i]
			}
			wantAll(t, made(t, l...), want...)
		}
	}
}

// P11.2: 0.0.0.0/0 alone has all addresses.
func TestFindOfAll(t *testing.T) {
	x := New()
	wantNone(t, x, edges(nil)...)
	r := by(0, 0, 9)
	wantAdds(t, x, r)
	for _, at := range edges(nil) {
		wantFind(t, x, at, r)
	}
	wantDrop(t, x, 0, 0, true)
	wantNone(t, x, edges(nil)...)
}

// P11.2: the first and the last address of a prefix, and those next to it, for each number of bits.
func TestFindAtTheEdges(t *testing.T) {
	for bits := 1; bits <= 32; bits++ {
		size := uint64(1) << (32 - bits)
		for _, at := range []uint32{0, ip(10, 1, 2, 3), 1<<31 - 1, 1 << 31, ip(192, 168, 77, 5), last} {
			net := uint32(uint64(at) / size * size)
			r := by(net, bits, uint32(bits))
			x := made(t, r)
			end := net + uint32(size-1)
			wantFind(t, x, net, r)
			wantFind(t, x, at, r)
			wantFind(t, x, end, r)
			wantNone(t, x, net-1, end+1)
		}
	}
}

// P11.2: of prefixes that lie in each other the longest counts; each that is dropped leaves its addresses to the next one.
func TestFindOfSeveral(t *testing.T) {
	at := ip(170, 85, 204, 51)
	for _, gone := range []bool{false, true} {
		x := New()
		for bits := range 33 {
			wantAdds(t, x, by(at&uint32(uint64(last)<<(32-bits)), bits, uint32(bits)))
		}
		// An address with one bit turned is in the prefixes of fewer bits than stand ahead of that one.
		for place := range 32 {
			bits := place
			wantFind(t, x, at^1<<(31-place), by(at&uint32(uint64(last)<<(32-bits)), bits, uint32(bits)))
		}
		for bits := 32; bits >= 0; bits-- {
			net := at & uint32(uint64(last)<<(32-bits))
			wantFind(t, x, at, by(net, bits, uint32(bits)))
			wantDrop(t, x, net, bits, true)
			if gone && bits > 0 { // every other one is left out
				bits--
				wantDrop(t, x, at&uint32(uint64(last)<<(32-bits)), bits, true)
			}
		}
		wantNone(t, x, at, 0, last)
	}
}

// P11.2: a /32 has its address, no other one.
func TestFindOfOneAddress(t *testing.T) {
	net := by(ip(10, 1, 2, 0), 24, 1)
	for _, at := range []uint32{ip(10, 1, 2, 0), ip(10, 1, 2, 4), ip(10, 1, 2, 255)} {
		one := by(at, 32, 2)
		x := made(t, one, net)
		for low := range uint32(256) {
			want := net
			if net.Net+low == at {
				want = one
			}
			wantFind(t, x, net.Net+low, want)
		}
		wantNone(t, x, net.Net-1, net.Net+256)
		wantDrop(t, x, at, 32, true)
		wantFind(t, x, at, net)
	}
	x := made(t, by(0, 32, 1), by(last, 32, 2))
	wantFind(t, x, 0, by(0, 32, 1))
	wantFind(t, x, last, by(last, 32, 2))
	wantNone(t, x, 1, last-1)
}

// P11.2: what is longer counts, not what came later, nor what has the greater net, way or card.
func TestFindByBitsAlone(t *testing.T) {
	wide := api.Route{Net: ip(10, 0, 0, 0), Bits: 8, Via: last, Card: 9, Src: last}
	long := api.Route{Net: ip(10, 0, 0, 0), Bits: 9}
	for _, l := range [][]api.Route{{wide, long}, {long, wide}} {
		x := made(t, l...)
		wantFind(t, x, ip(10, 127, 255, 255), long)
		wantFind(t, x, ip(10, 128, 0, 0), wide)
	}
}

// drawn are routes of unlike prefixes, many of which lie in each other.
func drawn(d *drawer, n int) []api.Route {
	m := &model{}
	for len(m.l) < n {
		bits := d.below(33)
		net := [4]uint32{ip(10, 1, 2, 3), ip(10, 1, 3, 4), ip(200, 1, 2, 3), uint32(d.next())}[d.below(4)]
		m.add(by(net&uint32(uint64(last)<<(32-bits)), bits, uint32(d.next())))
	}
	return m.l
}

// P11.3: a route that is added changes nothing for addresses that are not in its prefix, or in a longer one's; the others have it.
func TestAddChangesNoMore(t *testing.T) {
	d := drawer(113)
	for range 60 {
		l := drawn(&d, 12)
		x := made(t, l[1:]...)
		ips := edges(l)
		was := found(x, ips)
		wantAdds(t, x, l[0])
		for i, at := range ips {
			want := was[i]
			if within(at, l[0]) && want.Bits < l[0].Bits {
				want = l[0]
			}
			if is := found(x, ips[i:i+1])[0]; is != want {
				t.Errorf("Find(%x): %+v, want %+v", at, is, want)
			}
		}
	}
}

// P11.3: a route that is dropped again leaves all as it was.
func TestDropLeavesAllAsItWas(t *testing.T) {
	d := drawer(311)
	for range 60 {
		l := drawn(&d, 16)
		x := made(t, l[4:]...)
		ips := edges(l)
		was, all := found(x, ips), x.All()
		wantAdds(t, x, l[:4]...)
		for _, i := range []int{2, 0, 3, 1} {
			wantDrop(t, x, l[i].Net, l[i].Bits, true)
		}
		wantAll(t, x, all...)
		if is := found(x, ips); !slices.Equal(is, was) {
			t.Errorf("%+v, want %+v", is, was)
		}
	}
}

// P11.3: in whatever order routes are added, the same is found, in and outside of each prefix.
func TestWhateverOrder(t *testing.T) {
	d := drawer(131)
	for range 20 {
		l := drawn(&d, 20)
		m := &model{l}
		x := made(t, l...)
		ips := edges(l)
		want, all := found(x, ips), x.All()
		if !slices.Equal(all, m.all()) {
			t.Errorf("All(): %+v, want %+v", all, m.all())
		}
		other := slices.Clone(l)
		for range 10 {
			for i := range other {
				j := d.below(i + 1)
				other[i], other[j] = other[j], other[i]
			}
			y := made(t, other...)
			wantAll(t, y, all...)
			if is := found(y, ips); !slices.Equal(is, want) {
				t.Errorf("%+v, want %+v", is, want)
			}
		}
	}
}

// wantAsModel holds all routes, and those of addresses, against the model's.
func wantAsModel(t *testing.T, x *Table, m *model, ips []uint32) {
	t.Helper()
	wantAll(t, x, m.all()...)
	for _, at := range ips {
		if want, is := m.find(at); is {
			wantFind(t, x, at, want)
		} else {
			wantNone(t, x, at)
		}
	}
}

// P11.1 to P11.3: whatever is called, in whatever order, it does what the model does.
func TestAgainstTheModel(t *testing.T) {
	d := drawer(11)
	for round := range 60 {
		x, m := New(), &model{}
		for range 120 {
			bits := d.below(35) - 1
			net := [3]uint32{ip(10, 1, 2, 3), ip(138, 1, 2, 3), uint32(d.next())}[d.below(3)]
			if d.below(8) > 0 {
				net &= uint32(uint64(last) << (32 - min(max(bits, 0), 32)))
			}
			if d.below(3) > 0 {
				r := by(net, bits, uint32(d.next()))
				r.Card -= d.below(2)
				wantAdd(t, x, r, m.add(r))
			} else {
				wantDrop(t, x, net, bits, m.drop(net, bits))
			}
			wantAsModel(t, x, m, append(edges(m.l), net, uint32(d.next())))
			if t.Failed() {
				t.Fatalf("round %d", round)
			}
		}
	}
}

// P11.1, P11.2: a full table of routes of all numbers of bits does what the model does.
func TestAFullTableAgainstTheModel(t *testing.T) {
	d := drawer(1024)
	l := drawn(&d, api.MaxRoutes)
	x, m := made(t, l...), &model{l}
	wantAsModel(t, x, m, edges(l))
}

// R3: every call of nil, and of a value that New did not make.
func TestNilAndNotMade(t *testing.T) {
	for _, x := range []*Table{nil, new(Table), {}} {
		for range 2 {
			wantAdd(t, x, by(0, 0, 1), api.ErrNil)
			wantAdd(t, x, api.Route{Net: 1, Bits: 33, Card: -1}, api.ErrNil)
			wantDrop(t, x, 0, 0, false)
			wantDrop(t, x, last, -1, false)
			wantNone(t, x, 0, ip(10, 1, 2, 3), last)
			wantAll(t, x)
		}
	}
}

// R5: a list that All gave and that is written into afterwards changes nothing here, and no other answer.
func TestAnswersAreNewMemory(t *testing.T) {
	want := []api.Route{by(ip(10, 1, 0, 0), 16, 1), by(ip(10, 0, 0, 0), 8, 2), by(ip(11, 0, 0, 0), 8, 3), by(0, 0, 4)}
	x := made(t, want...)
	l, other := x.All(), x.All()
	for i := range l {
		l[i] = by(ip(99, 0, 0, 0), 8, 99)
	}
	_ = append(l[:1], by(0, 32, 7), by(0, 31, 7))
	if !slices.Equal(other, want) {
		t.Errorf("another answer: %+v", other)
	}
	wantAll(t, x, want...)
	wantFind(t, x, ip(10, 1, 2, 3), want[0])
	wantFind(t, x, ip(99, 0, 0, 0), want[3])

	// An answer stays as it was, whatever comes behind it.
	wantDrop(t, x, 0, 0, true)
	wantAdds(t, x, by(ip(10, 0, 0, 0), 8, 77))
	if !slices.Equal(other, want) {
		t.Errorf("another answer: %+v", other)
	}
}

// R5: Find and All change nothing, and no call changes what is found by another one.
func TestFindAndAllChangeNothing(t *testing.T) {
	l := many(300)
	x := made(t, l...)
	for range 3 {
		for _, r := range l {
			wantFind(t, x, r.Net+9, r)
		}
		wantNone(t, x, 0, last)
		wantAll(t, x, l...)
	}
}

// R7: the errors are everybody's, and tell their numbers.
func TestErrorsTellTheirNumbers(t *testing.T) {
	x := made(t, many(api.MaxRoutes)...)
	for _, c := range []struct {
		e    error
		want string
	}{
		{(*Table)(nil).Add(api.Route{}), "error 1"}, {x.Add(api.Route{Bits: -1}), "error 2"}, {x.Add(api.Route{}), "error 6"}, {x.Add(x.All()[0]), "error 0"},
	} {
		if c.e.Error() != c.want {
			t.Errorf("%v, want %s", c.e, c.want)
		}
	}
}
