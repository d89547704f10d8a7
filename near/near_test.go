package near

import (
	"slices"
	"testing"

	"stevedore/api"
)

// Addresses at the edges.
const (
	noIP  uint32 = 0
	allIP uint32 = 1<<32 - 1
)

// The least and the greatest number of a time.
const (
	leastTime    int64 = -1 << 63
	greatestTime int64 = 1<<63 - 1
)

// plain is the conf of the chapter's examples.
var plain = api.NearConf{Most: 2, Waits: 4, Each: 2, Known: 10, Asks: 2, Pause: 3}

// roomy is a conf with room for what most tests do.
var roomy = api.NearConf{Most: 8, Waits: 20, Each: 10, Known: 10, Asks: 3, Pause: 4}

// drawer makes numbers that look like chance and are the same each time.
type drawer uint64

func (d *drawer) next() uint64 {
	*d = *d*6364136223846793005 + 1442695040888963407
	return uint64(*d >> 24)
}

func (d *drawer) below(n int) int { return int(d.next() >> 8 % uint64(n)) }

// made is what New makes of a conf that may be.
func made(t *testing.T, c api.NearConf) *Near {
	t.Helper()
	n, e := New(c)
	if n == nil || e != api.OK {
		t.Fatalf("New(%+v): %v, %v", c, n, e)
	}
	return n
}

// wantFind does a Find, and holds its answer against what is wanted.
func wantFind(t *testing.T, n *Near, ip uint32, number uint64, now int64, mac api.Mac, known, asks bool, e api.Errno) {
	t.Helper()
	m, k, a, f := n.Find(ip, number, now)
	if m != mac || k != known || a != asks || f != e {
		t.Errorf("Find(%d, %d, %d): %d, %v, %v, %v, want %d, %v, %v, %v", ip, number, now, m, k, a, f, mac, known, asks, e)
	}
}

// wantHear does a Hear, and holds its answer against what is wanted.
func wantHear(t *testing.T, n *Near, ip uint32, mac api.Mac, asked bool, now int64, out ...uint64) {
	t.Helper()
	if l := n.Hear(ip, mac, asked, now); !slices.Equal(l, out) {
		t.Errorf("Hear(%d, %d, %v, %d): %v, want %v", ip, mac, asked, now, l, out)
	}
}

// wantTick does a Tick, and holds its answer against what is wanted.
func wantTick(t *testing.T, n *Near, now int64, asks []uint32, lost []uint64) {
	t.Helper()
	a, l := n.Tick(now)
	if !slices.Equal(a, asks) || !slices.Equal(l, lost) {
		t.Errorf("Tick(%d): %v, %v, want %v, %v", now, a, l, asks, lost)
	}
}

// wantState holds an address's state against what is wanted.
func wantState(t *testing.T, n *Near, ip uint32, state uint8) {
	t.Helper()
	if s := n.State(ip); s != state {
		t.Errorf("State(%d): %d, want %d", ip, s, state)
	}
}

// wantNext holds the least time against what is wanted; -1: there is none.
func wantNext(t *testing.T, n *Near, want int64) {
	t.Helper()
	time, is := n.Next()
	if want < 0 && (time != 0 || is) || want >= 0 && (time != want || !is) {
		t.Errorf("Next(): %d, %v, want %d", time, is, want)
	}
}

// wantWaits holds what waits against what is wanted.
func wantWaits(t *testing.T, n *Near, want ...api.Wait) {
	t.Helper()
	if l := n.Waits(); !slices.Equal(l, want) {
		t.Errorf("Waits(): %v, want %v", l, want)
	}
}

// The chapter's examples, row by row.
func TestExamples(t *testing.T) {
	n := made(t, plain)
	const a = 7
	wantFind(t, n, a, 1, 0, 0, false, true, api.OK)
	wantFind(t, n, a, 2, 1, 0, false, false, api.OK)
	wantState(t, n, a, api.NearAsked)
	wantWaits(t, n, api.Wait{IP: a, Number: 1}, api.Wait{IP: a, Number: 2})
	wantNext(t, n, 3)

	wantHear(t, n, a, 5, false, 2, 1, 2)
	wantState(t, n, a, api.NearKnown)
	wantWaits(t, n)
	wantNext(t, n, 12)

	wantFind(t, n, a, 3, 4, 5, true, false, api.OK)
	wantNext(t, n, 12)

	wantTick(t, n, 12, nil, nil)
	wantState(t, n, a, api.NearStale)
	wantNext(t, n, 22)
	wantFind(t, n, a, 4, 13, 5, true, true, api.OK)
	wantState(t, n, a, api.NearStale)
	wantNext(t, n, 16)

	wantTick(t, n, 16, []uint32{a}, nil)
	wantState(t, n, a, api.NearStale)
	wantNext(t, n, 19)
	wantTick(t, n, 19, nil, nil)
	wantState(t, n, a, api.NearNone)
	wantNext(t, n, -1)
}

// P9.1: which confs may be: each field at its edges, and one beyond.
func TestNewConfs(t *testing.T) {
	for _, c := range []struct {
		name string
		set  func(c *api.NearConf, v int64)
		may  []int64
		not  []int64
	}{
		{"Most", func(c *api.NearConf, v int64) { c.Most = int(v) }, []int64{1, 2, api.MaxNear - 1, api.MaxNear}, []int64{0, -1, leastTime, api.MaxNear + 1, greatestTime}},
		{"Waits", func(c *api.NearConf, v int64) { c.Waits = int(v) }, []int64{0, 1, api.MaxWait - 1, api.MaxWait}, []int64{-1, leastTime, api.MaxWait + 1, greatestTime}},
		{"Each", func(c *api.NearConf, v int64) { c.Each = int(v) }, []int64{0, 1, api.MaxWait, api.MaxWait + 1, greatestTime}, []int64{-1, leastTime}},
		{"Known", func(c *api.NearConf, v int64) { c.Known = v }, []int64{1, 2, 1<<40 - 1, 1 << 40}, []int64{0, -1, leastTime, 1<<40 + 1, greatestTime}},
		{"Asks", func(c *api.NearConf, v int64) { c.Asks = int(v) }, []int64{1, 2, 1<<20 - 1, 1 << 20}, []int64{0, -1, leastTime, 1<<20 + 1, greatestTime}},
		{"Pause", func(c *api.NearConf, v int64) { c.Pause = v }, []int64{1, 2, 1<<40 - 1, 1 << 40}, []int64{0, -1, leastTime, 1<<40 + 1, greatestTime}},
	} {
		for _, v := range c.may {
			k := plain
			c.set(&k, v)
			n := made(t, k)
			wantState(t, n, 7, api.NearNone)
			wantWaits(t, n)
			wantNext(t, n, -1)
			wantTick(t, n, 1<<44, nil, nil)
		}
		for _, v := range c.not {
			k := plain
			c.set(&k, v)
			if n, e := New(k); n != nil || e != api.ErrArg {
				t.Errorf("%s of %d: %v, %v", c.name, v, n, e)
			}
		}
	}
	if n, e := New(api.NearConf{}); n != nil || e != api.ErrArg {
		t.Errorf("of nothing: %v, %v", n, e)
	}
	made(t, api.NearConf{Most: 1, Known: 1, Asks: 1, Pause: 1})
	made(t, api.NearConf{Most: api.MaxNear, Waits: api.MaxWait, Each: 1<<63 - 1, Known: 1 << 40, Asks: 1 << 20, Pause: 1 << 40})
}

// P9.1: two of one conf know nothing of each other.
func TestNewOnesAreApart(t *testing.T) {
	n, m := made(t, plain), made(t, plain)
	wantFind(t, n, 7, 1, 100, 0, false, true, api.OK)
	wantState(t, m, 7, api.NearNone)
	wantFind(t, m, 7, 2, 0, 0, false, true, api.OK)
	wantNext(t, m, 3)
	wantWaits(t, n, api.Wait{IP: 7, Number: 1})
}

// P9.1: State, Waits and Next with several entries, by rising addresses whatever came first; addresses at the edges.
func TestWhatIsTold(t *testing.T) {
	n := made(t, roomy)
	wantHear(t, n, 9, 1, true, 0)
	wantFind(t, n, allIP, 5, 1, 0, false, true, api.OK)
	wantFind(t, n, 3, 9, 1, 0, false, true, api.OK)
	wantFind(t, n, noIP, 7, 2, 0, false, true, api.OK)
	wantFind(t, n, allIP, 4, 2, 0, false, false, api.OK)
	wantFind(t, n, 3, 9, 3, 0, false, false, api.OK)
	wantFind(t, n, 1<<31, 1<<64-1, 3, 0, false, true, api.OK)
	wantFind(t, n, noIP, 0, 3, 0, false, false, api.OK)
	wantWaits(t, n, api.Wait{IP: noIP, Number: 7}, api.Wait{IP: noIP, Number: 0}, api.Wait{IP: 3, Number: 9}, api.Wait{IP: 3, Number: 9},
		api.Wait{IP: 1 << 31, Number: 1<<64 - 1}, api.Wait{IP: allIP, Number: 5}, api.Wait{IP: allIP, Number: 4})
	wantNext(t, n, 5)
	for _, ip := range []uint32{noIP, 3, 1 << 31, allIP} {
		wantState(t, n, ip, api.NearAsked)
	}
	wantState(t, n, 9, api.NearKnown)
	for _, ip := range []uint32{1, 2, 4, 8, 10, 1<<31 - 1, allIP - 1} {
		wantState(t, n, ip, api.NearNone)
	}
	wantHear(t, n, 3, 3, false, 3, 9, 9)
	wantHear(t, n, allIP, 4, false, 3, 5, 4)
	wantNext(t, n, 6)
	wantHear(t, n, noIP, 2, false, 3, 7, 0)
	wantNext(t, n, 7)
	wantHear(t, n, 1<<31, 2, false, 4, 1<<64-1)
	wantNext(t, n, 10)
	wantWaits(t, n)
}

// P9.1: times that go back, below 0, and above 2^44, in Find, Hear and Tick.
func TestTimes(t *testing.T) {
	for _, c := range []struct{ first, now, want int64 }{
		{0, 0, 0}, {0, -1, 0}, {0, leastTime, 0}, {-5, -5, 0}, {-5, 3, 3}, {leastTime, leastTime, 0},
		{100, 99, 100}, {100, 100, 100}, {100, 101, 101}, {100, 0, 100}, {100, -1, 100}, {100, leastTime, 100},
		{0, 1<<44 - 1, 1<<44 - 1}, {0, 1 << 44, 1 << 44}, {0, 1<<44 + 1, 1 << 44}, {0, greatestTime, 1 << 44},
		{1<<44 + 1, 5, 1 << 44}, {greatestTime, greatestTime, 1 << 44}, {greatestTime, leastTime, 1 << 44},
	} {
		calls := []func(n *Near, now int64){
			func(n *Near, now int64) { n.Find(2, 1, now) },
			func(n *Near, now int64) { n.Hear(2, 1, true, now) },
			func(n *Near, now int64) { n.Tick(now) },
		}
		k := api.NearConf{Most: 8, Waits: 8, Each: 8, Known: 9, Asks: 1, Pause: 7}
		for i, first := range calls {
			for j, then := range calls {
				n := made(t, k)
				first(n, c.first)
				then(n, c.now)
				n.Hear(2, 1, true, leastTime) // which counts as the last time
				if time, is := n.Next(); time != c.want+9 || !is {
					t.Errorf("call %d at %d, call %d at %d: %d, %v, want %d", i, c.first, j, c.now, time, is, c.want+9)
				}
			}
		}
		n := made(t, k)
		wantTick(t, n, c.first, nil, nil)
		wantFind(t, n, 2, 1, c.now, 0, false, true, api.OK)
		wantNext(t, n, c.want+7)
		n = made(t, k)
		wantTick(t, n, c.first, nil, nil)
		wantHear(t, n, 2, 1, true, c.now)
		wantNext(t, n, c.want+9)
	}
}

// P9.1: Find of a card that is known changes nothing but the time: a call that comes too early then counts as it.
func TestFindOfKnownTakesTheTime(t *testing.T) {
	n := made(t, roomy)
	wantHear(t, n, 1, 5, true, 0)
	wantFind(t, n, 1, 1, 9, 5, true, false, api.OK)
	wantFind(t, n, 2, 2, 3, 0, false, true, api.OK)
	wantNext(t, n, 10)
	wantTick(t, n, 4, nil, nil)
	wantHear(t, n, 1, 5, false, 4)
	wantNext(t, n, 13)
}

// P9.1: at the greatest time spans of the greatest length are counted on, and nothing is due behind it.
func TestGreatestTimes(t *testing.T) {
	n := made(t, api.NearConf{Most: 4, Waits: 4, Each: 4, Known: 1 << 40, Asks: 1, Pause: 1 << 40})
	wantFind(t, n, 1, 1, greatestTime, 0, false, true, api.OK)
	wantHear(t, n, 2, 2, true, greatestTime)
	wantNext(t, n, 1<<44+1<<40)
	wantTick(t, n, greatestTime, nil, nil)
	wantState(t, n, 1, api.NearAsked)
	wantState(t, n, 2, api.NearKnown)
}

// P9.2: Find of each of the four states, and of a stale one a second time.
func TestFindOfEachState(t *testing.T) {
	n := made(t, roomy)
	for i, ip := range []uint32{noIP, 7, allIP} {
		at := int64(1000 * i)
		wantFind(t, n, ip, 11, at, 0, false, true, api.OK) // none
		wantState(t, n, ip, api.NearAsked)
		wantNext(t, n, at+4)
		wantFind(t, n, ip, 12, at+1, 0, false, false, api.OK) // asked
		wantState(t, n, ip, api.NearAsked)
		wantNext(t, n, at+4)
		wantWaits(t, n, api.Wait{IP: ip, Number: 11}, api.Wait{IP: ip, Number: 12})

		wantHear(t, n, ip, 1<<64-1, false, at+2, 11, 12)
		wantFind(t, n, ip, 13, at+3, 1<<64-1, true, false, api.OK) // known
		wantState(t, n, ip, api.NearKnown)
		wantNext(t, n, at+12)

		wantTick(t, n, at+12, nil, nil)
		wantNext(t, n, at+22)
		wantFind(t, n, ip, 14, at+13, 1<<64-1, true, true, api.OK) // stale
		wantState(t, n, ip, api.NearStale)
		wantNext(t, n, at+17)
		wantFind(t, n, ip, 15, at+14, 1<<64-1, true, false, api.OK) // stale, asked already
		wantState(t, n, ip, api.NearStale)
		wantNext(t, n, at+17)
		wantTick(t, n, at+17, []uint32{ip}, nil)
		wantFind(t, n, ip, 16, at+18, 1<<64-1, true, false, api.OK) // stale, asked twice
		wantNext(t, n, at+21)
		wantWaits(t, n)
		wantTick(t, n, at+21, []uint32{ip}, nil)
		wantTick(t, n, at+25, nil, nil)
		wantState(t, n, ip, api.NearNone)
	}
}

// P9.2: a card's address of 0 is known as well.
func TestCardOfNought(t *testing.T) {
	n := made(t, roomy)
	wantHear(t, n, 7, 0, true, 0)
	wantFind(t, n, 7, 1, 1, 0, true, false, api.OK)
	wantTick(t, n, 10, nil, nil)
	wantFind(t, n, 7, 1, 11, 0, true, true, api.OK)
}

// P9.2: at most Each wait for one.
func TestFindEach(t *testing.T) {
	n := made(t, api.NearConf{Most: 3, Waits: 100, Each: 2, Known: 10, Asks: 1, Pause: 3})
	wantFind(t, n, 1, 1, 0, 0, false, true, api.OK)
	wantFind(t, n, 1, 2, 0, 0, false, false, api.OK)
	wantFind(t, n, 1, 3, 0, 0, false, false, api.ErrFull)
	wantFind(t, n, 2, 4, 0, 0, false, true, api.OK)
	wantWaits(t, n, api.Wait{IP: 1, Number: 1}, api.Wait{IP: 1, Number: 2}, api.Wait{IP: 2, Number: 4})
	wantHear(t, n, 1, 1, false, 1, 1, 2)
	wantTick(t, n, 30, nil, []uint64{4})
	wantFind(t, n, 2, 5, 30, 0, false, true, api.OK) // there is room again
}

// P9.2: at most Waits wait in all.
func TestFindWaits(t *testing.T) {
	n := made(t, api.NearConf{Most: 3, Waits: 3, Each: 100, Known: 10, Asks: 1, Pause: 3})
	wantFind(t, n, 1, 1, 0, 0, false, true, api.OK)
	wantFind(t, n, 2, 2, 0, 0, false, true, api.OK)
	wantFind(t, n, 1, 3, 1, 0, false, false, api.OK)
	wantFind(t, n, 1, 4, 1, 0, false, false, api.ErrFull)
	wantFind(t, n, 2, 5, 1, 0, false, false, api.ErrFull)
	wantFind(t, n, 3, 6, 1, 0, false, false, api.ErrFull)
	wantState(t, n, 3, api.NearNone)
	wantHear(t, n, 1, 9, false, 1, 1, 3)
	wantFind(t, n, 1, 7, 1, 9, true, false, api.OK)
	wantFind(t, n, 3, 8, 1, 0, false, true, api.OK)
	wantFind(t, n, 2, 9, 1, 0, false, false, api.OK)
	wantFind(t, n, 3, 10, 1, 0, false, false, api.ErrFull)
	wantTick(t, n, 3, nil, []uint64{2, 9})
	wantFind(t, n, 3, 10, 3, 0, false, false, api.OK)
}

// P9.2: at most Most entries, of whatever state.
func TestFindMost(t *testing.T) {
	n := made(t, api.NearConf{Most: 2, Waits: 100, Each: 100, Known: 10, Asks: 1, Pause: 3})
	wantHear(t, n, 1, 1, true, 0)
	wantFind(t, n, 2, 2, 0, 0, false, true, api.OK)
	wantFind(t, n, 3, 3, 0, 0, false, false, api.ErrFull)
	wantState(t, n, 3, api.NearNone)
	wantFind(t, n, 2, 4, 0, 0, false, false, api.OK)
	wantFind(t, n, 1, 5, 0, 1, true, false, api.OK)
	wantTick(t, n, 3, nil, []uint64{2, 4})
	wantFind(t, n, 3, 6, 3, 0, false, true, api.OK)
	wantFind(t, n, 2, 7, 3, 0, false, false, api.ErrFull)
}

// P9.2: the greatest bounds, and one beyond each.
func TestFindGreatestBounds(t *testing.T) {
	c := api.NearConf{Most: api.MaxNear, Waits: api.MaxWait, Each: api.MaxWait, Known: 10, Asks: 1, Pause: 3}
	n := made(t, c)
	for i := range api.MaxNear - 1 {
		wantHear(t, n, uint32(i), api.Mac(i), true, 0)
	}
	for i := range uint64(api.MaxWait) {
		wantFind(t, n, allIP, i, 0, 0, false, i == 0, api.OK)
	}
	wantFind(t, n, allIP, 1, 0, 0, false, false, api.ErrFull)
	wantFind(t, n, allIP-1, 1, 0, 0, false, false, api.ErrFull)
	wantHear(t, n, allIP-1, 1, true, 0)
	wantState(t, n, allIP-1, api.NearNone)
	if l := n.Waits(); len(l) != api.MaxWait {
		t.Errorf("%d wait", len(l))
	}
	if _, lost := n.Tick(3); len(lost) != api.MaxWait || lost[0] != 0 || lost[api.MaxWait-1] != api.MaxWait-1 {
		t.Errorf("%d are lost", len(lost))
	}
	wantFind(t, n, allIP-1, 1, 3, 0, false, true, api.OK)
}

// P9.2: several bounds at once are one error; Waits and Each of 0 let nothing wait, and nobody is asked.
func TestFindBoundsAtOnce(t *testing.T) {
	for _, c := range []api.NearConf{
		{Most: 1, Waits: 0, Each: 5, Known: 10, Asks: 2, Pause: 3},
		{Most: 1, Waits: 5, Each: 0, Known: 10, Asks: 2, Pause: 3},
		{Most: 1, Waits: 0, Each: 0, Known: 10, Asks: 2, Pause: 3},
	} {
		n := made(t, c)
		wantFind(t, n, 1, 1, 0, 0, false, false, api.ErrFull)
		wantState(t, n, 1, api.NearNone)
		wantNext(t, n, -1)
		wantHear(t, n, 1, 5, true, 0)
		wantFind(t, n, 1, 1, 1, 5, true, false, api.OK)
		wantFind(t, n, 2, 1, 1, 0, false, false, api.ErrFull) // Most as well
		wantTick(t, n, 10, nil, nil)
		wantFind(t, n, 1, 1, 11, 5, true, true, api.OK) // a stale one is asked, though nothing may wait
		wantTick(t, n, 14, []uint32{1}, nil)
		wantTick(t, n, 17, nil, nil)
		wantWaits(t, n)
	}
	n := made(t, api.NearConf{Most: 1, Waits: 1, Each: 1, Known: 1, Asks: 1, Pause: 1})
	wantFind(t, n, 1, 1, 0, 0, false, true, api.OK)
	wantFind(t, n, 1, 2, 0, 0, false, false, api.ErrFull)
	wantFind(t, n, 2, 3, 0, 0, false, false, api.ErrFull)
}

// P9.2, R2: what is refused changes nothing, the time neither.
func TestRefusedFindChangesNothing(t *testing.T) {
	n := made(t, plain)
	wantFind(t, n, 1, 1, 0, 0, false, true, api.OK)
	wantFind(t, n, 1, 2, 0, 0, false, false, api.OK)
	wantFind(t, n, 1, 3, 50, 0, false, false, api.ErrFull)
	wantNext(t, n, 3)
	wantWaits(t, n, api.Wait{IP: 1, Number: 1}, api.Wait{IP: 1, Number: 2})
	wantFind(t, n, 2, 4, 1, 0, false, true, api.OK)
	wantFind(t, n, 3, 5, 60, 0, false, false, api.ErrFull)
	wantHear(t, n, 1, 7, false, 1, 1, 2)
	wantTick(t, n, 4, []uint32{2}, nil)
	wantNext(t, n, 7)
}

// P9.3: Hear of one that was asked and of one that was not, with and without an entry.
func TestHear(t *testing.T) {
	n := made(t, roomy)
	wantHear(t, n, 1, 5, false, 0) // nobody wants to know
	wantState(t, n, 1, api.NearNone)
	wantNext(t, n, -1)
	wantHear(t, n, 1, 5, true, 0)
	wantState(t, n, 1, api.NearKnown)
	wantFind(t, n, 1, 1, 0, 5, true, false, api.OK)
	wantNext(t, n, 10)

	for _, asked := range []bool{false, true} {
		wantHear(t, n, 1, 6, asked, 1) // another card has it now
		wantFind(t, n, 1, 1, 1, 6, true, false, api.OK)
		wantNext(t, n, 11)
		wantFind(t, n, 2, 21, 2, 0, false, true, api.OK)
		wantFind(t, n, 2, 22, 2, 0, false, false, api.OK)
		wantFind(t, n, 3, 31, 2, 0, false, true, api.OK)
		wantHear(t, n, 2, 7, asked, 3, 21, 22)
		wantWaits(t, n, api.Wait{IP: 3, Number: 31})
		wantState(t, n, 2, api.NearKnown)
		wantHear(t, n, 2, 7, asked, 3) // they went already
		wantFind(t, n, 2, 23, 3, 7, true, false, api.OK)
		wantHear(t, n, 3, 8, asked, 4, 31)

		n = made(t, roomy)
		wantHear(t, n, 1, 5, true, 0)
	}
}

// P9.3: with Most entries nobody new is known, but those that are there are heard.
func TestHearWithMost(t *testing.T) {
	n := made(t, plain)
	wantHear(t, n, noIP, 1, true, 0)
	wantFind(t, n, allIP, 9, 1, 0, false, true, api.OK)
	wantHear(t, n, 3, 3, true, 40)
	wantHear(t, n, 3, 3, false, 40)
	wantState(t, n, 3, api.NearNone)
	wantNext(t, n, 4)
	wantHear(t, n, allIP, 2, true, 2, 9) // what nothing came of did not move the time
	wantHear(t, n, noIP, 4, true, 3)
	wantNext(t, n, 12)
	wantFind(t, n, noIP, 1, 3, 4, true, false, api.OK)
	wantFind(t, n, allIP, 1, 3, 2, true, false, api.OK)
	wantTick(t, n, 13, nil, nil)
	wantTick(t, n, 23, nil, nil)
	wantHear(t, n, 3, 3, true, 23)
	wantState(t, n, 3, api.NearKnown)
}

// P9.3: a stale one that is heard is known again, and how often it was asked counts anew.
func TestHearOfStale(t *testing.T) {
	for _, asked := range []bool{false, true} {
		for _, finds := range []bool{false, true} {
			n := made(t, plain)
			wantHear(t, n, 7, 5, true, 0)
			wantTick(t, n, 10, nil, nil)
			if finds {
				wantFind(t, n, 7, 1, 11, 5, true, true, api.OK)
				wantTick(t, n, 14, []uint32{7}, nil)
			}
			wantHear(t, n, 7, 6, asked, 15)
			wantState(t, n, 7, api.NearKnown)
			wantNext(t, n, 25)
			wantFind(t, n, 7, 1, 16, 6, true, false, api.OK)
			wantTick(t, n, 25, nil, nil)
			wantState(t, n, 7, api.NearStale)
			wantFind(t, n, 7, 1, 26, 6, true, true, api.OK)
			wantTick(t, n, 29, []uint32{7}, nil)
			wantTick(t, n, 32, nil, nil)
			wantState(t, n, 7, api.NearNone)
		}
	}
}

// P9.4: Tick ahead of a time, at it, and behind it; what is due late counts from then on.
func TestTickAtTimes(t *testing.T) {
	for _, late := range []int64{0, 1, 500} {
		n := made(t, plain)
		wantFind(t, n, 1, 1, 5, 0, false, true, api.OK)
		wantTick(t, n, 7, nil, nil)
		wantNext(t, n, 8)
		at := 8 + late
		wantTick(t, n, at, []uint32{1}, nil)
		wantTick(t, n, at, nil, nil)
		wantState(t, n, 1, api.NearAsked)
		wantNext(t, n, at+3)
		wantWaits(t, n, api.Wait{IP: 1, Number: 1})
		wantTick(t, n, at+2, nil, nil)
		wantTick(t, n, at+3+late, nil, []uint64{1})
		wantState(t, n, 1, api.NearNone)
		wantTick(t, n, at+4+late, nil, nil)

		n = made(t, plain)
		wantHear(t, n, 1, 5, true, 5)
		wantTick(t, n, 14, nil, nil)
		wantState(t, n, 1, api.NearKnown)
		at = 15 + late
		wantTick(t, n, at, nil, nil)
		wantState(t, n, 1, api.NearStale)
		wantNext(t, n, at+10)
		wantTick(t, n, at+9, nil, nil)
		wantState(t, n, 1, api.NearStale)
		wantTick(t, n, at+10+late, nil, nil)
		wantState(t, n, 1, api.NearNone)
	}
}

// P9.4: a Tick whose time goes back does what is due at the last one.
func TestTickGoesBack(t *testing.T) {
	n := made(t, plain)
	wantFind(t, n, 1, 1, 5, 0, false, true, api.OK)
	wantHear(t, n, 2, 2, true, 9)
	wantTick(t, n, 0, []uint32{1}, nil)
	wantNext(t, n, 12)
	wantTick(t, n, -1, nil, nil)
	wantTick(t, n, 12, nil, []uint64{1})
}

// P9.4: several that are due at once, of all kinds, by rising addresses.
func TestTickOfSeveral(t *testing.T) {
	n := made(t, api.NearConf{Most: 9, Waits: 20, Each: 4, Known: 6, Asks: 2, Pause: 3})
	wantHear(t, n, 40, 4, true, 0)
	wantHear(t, n, 20, 2, true, 0) // both stale at 6, gone at 12
	wantTick(t, n, 6, nil, nil)
	wantHear(t, n, 30, 3, true, 6) // stale at 12
	wantFind(t, n, 90, 901, 6, 0, false, true, api.OK)
	wantFind(t, n, noIP, 1, 6, 0, false, true, api.OK)
	wantFind(t, n, 90, 902, 7, 0, false, false, api.OK)
	wantTick(t, n, 9, []uint32{noIP, 90}, nil) // both given up at 12
	wantFind(t, n, 40, 5, 9, 4, true, true, api.OK)
	wantFind(t, n, allIP, 7, 9, 0, false, true, api.OK)
	wantFind(t, n, 10, 8, 9, 0, false, true, api.OK)
	wantFind(t, n, noIP, 2, 9, 0, false, false, api.OK)
	wantFind(t, n, 50, 6, 10, 0, false, true, api.OK) // due at 13
	wantNext(t, n, 12)
	wantTick(t, n, 11, nil, nil)
	wantTick(t, n, 12, []uint32{10, 40, allIP}, []uint64{1, 2, 901, 902})
	for ip, state := range map[uint32]uint8{
		noIP: api.NearNone, 10: api.NearAsked, 20: api.NearNone, 30: api.NearStale, 40: api.NearStale,
		50: api.NearAsked, 90: api.NearNone, allIP: api.NearAsked,
	} {
		wantState(t, n, ip, state)
	}
	wantWaits(t, n, api.Wait{IP: 10, Number: 8}, api.Wait{IP: 50, Number: 6}, api.Wait{IP: allIP, Number: 7})
	wantNext(t, n, 13)
}

// P9.4: of how many asks one is given up, with what waited for it.
func TestTickGivesUp(t *testing.T) {
	for asks := 1; asks < 6; asks++ {
		n := made(t, api.NearConf{Most: 1, Waits: 2, Each: 2, Known: 10, Asks: asks, Pause: 3})
		wantFind(t, n, 7, 1, 0, 0, false, true, api.OK)
		wantFind(t, n, 7, 2, 1, 0, false, false, api.OK)
		for i := 1; i < asks; i++ {
			wantTick(t, n, int64(3*i-1), nil, nil)
			wantTick(t, n, int64(3*i), []uint32{7}, nil)
		}
		wantTick(t, n, int64(3*asks), nil, []uint64{1, 2})
		wantWaits(t, n)
		wantNext(t, n, -1)

		at := int64(100)
		wantHear(t, n, 7, 5, true, at)
		wantTick(t, n, at+10, nil, nil)
		wantFind(t, n, 7, 3, at+11, 5, true, true, api.OK)
		for i := 1; i < asks; i++ {
			wantTick(t, n, at+11+int64(3*i), []uint32{7}, nil)
		}
		wantTick(t, n, at+11+int64(3*asks), nil, nil)
		wantState(t, n, 7, api.NearNone)
	}
}

// P9.5: who is heard within Known is never asked.
func TestWhoIsHeardIsNotAsked(t *testing.T) {
	n := made(t, plain)
	wantHear(t, n, 7, 5, true, 0)
	for now := int64(1); now < 400; now++ {
		wantTick(t, n, now, nil, nil)
		wantFind(t, n, 7, uint64(now), now, 5, true, false, api.OK)
		if now%9 == 0 {
			wantHear(t, n, 7, 5, now%2 == 0, now)
		}
	}
}

// P9.5: who does not answer is given up within Asks pauses, however often packets come.
func TestWhoIsSilentIsGivenUp(t *testing.T) {
	c := api.NearConf{Most: 3, Waits: 30, Each: 9, Known: 10, Asks: 4, Pause: 5}
	n := made(t, c)
	wantHear(t, n, 2, 2, true, 0)
	wantTick(t, n, 10, nil, nil)
	wantFind(t, n, 1, 1, 10, 0, false, true, api.OK)
	wantFind(t, n, 2, 1, 10, 2, true, true, api.OK)
	asked := 1
	for now := int64(11); now < 10+4*5; now++ {
		asks, lost := n.Tick(now)
		if len(lost) > 0 || len(asks) > 0 && !slices.Equal(asks, []uint32{1, 2}) {
			t.Fatalf("at %d: %v, %v", now, asks, lost)
		}
		asked += len(asks) / 2
		n.Find(1, uint64(now), now)
		wantFind(t, n, 2, 1, now, 2, true, false, api.OK)
	}
	if asked != c.Asks {
		t.Errorf("asked %d times", asked)
	}
	wantTick(t, n, 10+4*5, nil, []uint64{1, 11, 12, 13, 14, 15, 16, 17, 18})
	wantNext(t, n, -1)
}

// modelEntry, and model, are what the promises say, in a list, without regard for how long it takes.
type modelEntry struct {
	ip    uint32
	state uint8
	mac   api.Mac
	time  int64
	asked int
	waits []uint64
}

type model struct {
	c    api.NearConf
	list []*modelEntry
	last int64
}

func (m *model) entry(ip uint32) *modelEntry {
	for _, e := range m.list {
		if e.ip == ip {
			return e
		}
	}
	return nil
}

func (m *model) add(e *modelEntry) {
	m.list = append(m.list, e)
	slices.SortFunc(m.list, func(a, b *modelEntry) int {
		if a.ip < b.ip {
			return -1
		}
		return 1
	})
}

func (m *model) clock(now int64) {
	if now > 1<<44 {
		now = 1 << 44
	}
	if now > m.last {
		m.last = now
	}
}

func (m *model) find(ip uint32, number uint64, now int64) (api.Mac, bool, bool, api.Errno) {
	e := m.entry(ip)
	if e != nil && e.state != api.NearAsked {
		m.clock(now)
		asks := e.state == api.NearStale && e.asked == 0
		if asks {
			e.asked, e.time = 1, m.last+m.c.Pause
		}
		return e.mac, true, asks, api.OK
	}
	if e == nil && len(m.list) == m.c.Most || len(m.waits()) == m.c.Waits || m.c.Each == 0 || e != nil && len(e.waits) == m.c.Each {
		return 0, false, false, api.ErrFull
	}
	m.clock(now)
	if e != nil {
		e.waits = append(e.waits, number)
		return 0, false, false, api.OK
	}
	m.add(&modelEntry{ip: ip, state: api.NearAsked, time: m.last + m.c.Pause, asked: 1, waits: []uint64{number}})
	return 0, false, true, api.OK
}

func (m *model) hear(ip uint32, mac api.Mac, asked bool, now int64) []uint64 {
	e := m.entry(ip)
	if e == nil {
		if !asked || len(m.list) == m.c.Most {
			return nil
		}
		e = &modelEntry{ip: ip}
		m.add(e)
	}
	m.clock(now)
	out := e.waits
	e.state, e.mac, e.asked, e.time, e.waits = api.NearKnown, mac, 0, m.last+m.c.Known, nil
	return out
}

func (m *model) tick(now int64) (asks []uint32, lost []uint64) {
	m.clock(now)
	var stay []*modelEntry
	for _, e := range m.list {
		if e.time > m.last {
			stay = append(stay, e)
			continue
		}
		if e.state == api.NearKnown {
			e.state, e.asked, e.time = api.NearStale, 0, m.last+m.c.Known
			stay = append(stay, e)
			continue
		}
		if e.state == api.NearStale && e.asked == 0 {
			continue
		}
		if e.asked == m.c.Asks {
			lost = append(lost, e.waits...)
			continue
		}
		e.asked++
		e.time = m.last + m.c.Pause
		asks = append(asks, e.ip)
		stay = append(stay, e)
	}
	m.list = stay
	return asks, lost
}

func (m *model) waits() (out []api.Wait) {
	for _, e := range m.list {
		for _, number := range e.waits {
			out = append(out, api.Wait{IP: e.ip, Number: number})
		}
	}
	return out
}

func (m *model) next() int64 {
	least := int64(-1)
	for _, e := range m.list {
		if least < 0 || e.time < least {
			least = e.time
		}
	}
	return least
}

// books count what waits, and what became of it.
type books struct {
	t    *testing.T
	open map[uint64]bool
}

func (b *books) came(number uint64) { b.open[number] = true }

func (b *books) left(numbers []uint64) {
	b.t.Helper()
	for _, number := range numbers {
		if !b.open[number] {
			b.t.Fatalf("%d goes, which did not wait", number)
		}
		delete(b.open, number)
	}
}

// P9.1 to P9.5: whatever is called, in whatever order, it does what the model does; what waits goes, or is lost, just once each, and the bounds hold.
func TestAgainstTheModel(t *testing.T) {
	d := drawer(9)
	ips := []uint32{noIP, 1, 7, 9, 1 << 31, allIP}
	for round := range 400 {
		c := api.NearConf{Most: 1 + d.below(6), Waits: d.below(8), Each: d.below(5), Known: int64(1 + d.below(12)), Asks: 1 + d.below(4), Pause: int64(1 + d.below(6))}
		n, m := made(t, c), &model{c: c}
		b := &books{t, map[uint64]bool{}}
		now := int64(0)
		if round%10 == 0 {
			now = 1<<44 - 100
		}
		for step := range uint64(200) {
			now += int64(d.below(4))
			at := now
			if d.below(8) == 0 {
				at -= int64(d.below(40))
			}
			ip := ips[d.below(len(ips))]
			switch d.below(5) {
			case 0, 1:
				waiting := len(m.waits())
				mac, known, asks, e := m.find(ip, step, at)
				if len(m.waits()) > waiting {
					b.came(step)
				}
				wantFind(t, n, ip, step, at, mac, known, asks, e)
			case 2:
				mac, asked := api.Mac(d.next()), d.below(2) == 0
				out := m.hear(ip, mac, asked, at)
				wantHear(t, n, ip, mac, asked, at, out...)
				b.left(out)
			default:
				asks, lost := m.tick(at)
				wantTick(t, n, at, asks, lost)
				b.left(lost)
			}
			wantNext(t, n, m.next())
			wantWaits(t, n, m.waits()...)
			held := 0
			for _, ip := range ips {
				want := api.NearNone
				if e := m.entry(ip); e != nil {
					want = e.state
					held++
					if len(e.waits) > c.Each {
						t.Errorf("%d wait for one", len(e.waits))
					}
				}
				wantState(t, n, ip, want)
			}
			if held > c.Most || len(b.open) > c.Waits || len(b.open) != len(n.Waits()) {
				t.Errorf("%d entries, %d wait", held, len(b.open))
			}
			if t.Failed() {
				t.Fatalf("round %d, step %d, %+v", round, step, c)
			}
		}
	}
}

// R3: every method of a nil pointer, and of a value that New did not make.
func TestNilAndNotMade(t *testing.T) {
	for _, n := range []*Near{nil, new(Near), {}} {
		for range 2 {
			wantFind(t, n, 1, 1, 5, 0, false, false, api.ErrNil)
			wantHear(t, n, 1, 1, true, 5)
			wantHear(t, n, 1, 1, false, 5)
			wantTick(t, n, 1<<44, nil, nil)
			wantState(t, n, 1, api.NearNone)
			wantState(t, n, 0, api.NearNone)
			wantWaits(t, n)
			wantNext(t, n, -1)
		}
	}
	n, _ := New(api.NearConf{})
	wantFind(t, n, 1, 1, 5, 0, false, false, api.ErrNil)
}

// R5: an answer's list that is changed by who got it changes nothing here, and no other answer.
func TestAnswersAreNewMemory(t *testing.T) {
	n := made(t, roomy)
	for i := range uint64(5) {
		n.Find(1, 10+i, 0)
		n.Find(2, 20+i, 0)
	}
	l := n.Waits()
	other := n.Waits()
	clear(l)
	_ = append(l[:3], api.Wait{IP: 9, Number: 9})
	if other[0] != (api.Wait{IP: 1, Number: 10}) || other[3] != (api.Wait{IP: 1, Number: 13}) {
		t.Errorf("another answer: %v", other)
	}
	wantWaits(t, n, other...)

	asks, _ := n.Tick(4)
	clear(asks)
	wantTick(t, n, 8, []uint32{1, 2}, nil)
	out := n.Hear(1, 1, false, 8)
	clear(out)
	_ = append(out[:0], 99, 98)
	for i := range uint64(5) {
		n.Find(3, 30+i, 8)
	}
	n.Hear(1, 1, false, 8)
	want := []api.Wait{}
	for i := range uint64(5) {
		want = append(want, api.Wait{IP: 2, Number: 20 + i})
	}
	for i := range uint64(5) {
		want = append(want, api.Wait{IP: 3, Number: 30 + i})
	}
	wantWaits(t, n, want...)

	asks, lost := n.Tick(12)
	if !slices.Equal(asks, []uint32{3}) || !slices.Equal(lost, []uint64{20, 21, 22, 23, 24}) {
		t.Errorf("%v, %v", asks, lost)
	}
	_ = append(lost, 7, 7, 7)
	clear(lost)
	wantWaits(t, n, want[5:]...)
	wantFind(t, n, 2, 20, 12, 0, false, true, api.OK)
	wantWaits(t, n, append([]api.Wait{{IP: 2, Number: 20}}, want[5:]...)...)
}

// R6: what is done with an order of calls is the same each time, though a map's order is not.
func TestSameEachTime(t *testing.T) {
	run := func() ([]uint32, []uint64, []api.Wait) {
		n := made(t, api.NearConf{Most: 200, Waits: 400, Each: 2, Known: 10, Asks: 1, Pause: 3})
		d := drawer(3)
		for i := range uint64(150) {
			n.Find(uint32(d.next()), i, int64(i/100))
		}
		waits := n.Waits()
		asks, lost := n.Tick(3)
		return asks, lost, waits
	}
	a, l, w := run()
	for range 20 {
		b, m, v := run()
		if !slices.Equal(a, b) || !slices.Equal(l, m) || !slices.Equal(w, v) {
			t.Fatal("another answer")
		}
	}
	if len(l) != 100 || len(w) != 150 {
		t.Errorf("%d are lost, %d waited", len(l), len(w))
	}
}

// R7: the errors are everybody's, and tell their numbers.
func TestErrorsTellTheirNumbers(t *testing.T) {
	_, e := New(api.NearConf{})
	var err error = e
	if e != 2 || err.Error() != "error 2" {
		t.Error(int(e), err.Error())
	}
}
