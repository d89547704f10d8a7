package meter

import (
	"math"
	"math/big"
	"slices"
	"strconv"
	"strings"
	"testing"
	"unsafe"

	"stevedore/api"
)

const top = api.MaxCount

// row is a counter, as it is added.
func row(name string, came, dropped int64) api.Count {
	return api.Count{Name: name, Came: came, Dropped: dropped}
}

// with is a new meter to which these were added; each must be taken.
func with(t *testing.T, l ...api.Count) *Meter {
	t.Helper()
	m := New()
	for _, c := range l {
		if e := m.Add(c.Name, c.Came, c.Dropped); e != api.OK {
			t.Fatalf("Add(%q, %d, %d): %v", c.Name, c.Came, c.Dropped, e)
		}
	}
	return m
}

// label is the i-th of many names, none of which is another one's.
func label(i int) string {
	return "n-" + string([]byte{'a' + byte(i/26), 'a' + byte(i%26)})
}

// full is a meter of MaxMeter counters, the i-th with i that came and 2 i that were dropped.
func full(t *testing.T) *Meter {
	t.Helper()
	m := New()
	for i := range api.MaxMeter {
		if e := m.Add(label(i), int64(i), int64(2*i)); e != api.OK {
			t.Fatalf("counter %d: %v", i, e)
		}
	}
	return m
}

// holds is whether m has just these counters, by All, Get and Total.
func holds(t *testing.T, what string, m *Meter, want ...api.Count) {
	t.Helper()
	if got := m.All(); !slices.Equal(got, want) {
		t.Errorf("%s: All: %v, want %v", what, got, want)
	}
	came, dropped := big.NewInt(0), big.NewInt(0)
	for _, c := range want {
		if got, was := m.Get(c.Name), complex(float64(c.Came), float64(c.Dropped)); got != was {
			t.Errorf("%s: Get(%q): %v, want %v", what, c.Name, got, was)
		}
		came.Add(came, big.NewInt(c.Came))
		dropped.Add(dropped, big.NewInt(c.Dropped))
	}
	if got, was := m.Total(), complex(atMost(came), atMost(dropped)); got != was {
		t.Errorf("%s: Total: %v, want %v", what, got, was)
	}
}

// atMost is a number, or MaxCount, if it is above that.
func atMost(n *big.Int) float64 {
	if n.Cmp(big.NewInt(top)) > 0 {
		return top
	}
	return float64(n.Int64())
}

// P4.2: the chapter's example.
func TestExample(t *testing.T) {
	m := New()
	if e := m.Add("rx", 3, 1); e != api.OK {
		t.Errorf("Add(rx, 3, 1): %v", e)
	}
	if e := m.Add("rx", 2, 0); e != api.OK {
		t.Errorf("Add(rx, 2, 0): %v", e)
	}
	if c := m.Get("rx"); c != 5+1i {
		t.Errorf("Get(rx): %v", c)
	}
}

// numbers are parts at the edges, with whether they may be.
func numbers() map[int64]bool {
	return map[int64]bool{
		math.MinInt64: false, -top - 1: false, -top: false, -2: false, -1: false,
		0: true, 1: true, 2: true, 1 << 31: true, 1<<52 - 1: true, top: true,
		top + 1: false, 1<<53 + 1: false, math.MaxInt64 - 1: false, math.MaxInt64: false,
	}
}

// P4.1: Make takes both parts from 0 to MaxCount, and Read answers them.
func TestMakeAndRead(t *testing.T) {
	for came, a := range numbers() {
		for dropped, b := range numbers() {
			c, e := Make(came, dropped)
			if !a || !b {
				if c != 0 || e != api.ErrArg {
					t.Errorf("Make(%d, %d): %v, %v", came, dropped, c, e)
				}
				continue
			}
			if e != api.OK || real(c) != float64(came) || imag(c) != float64(dropped) {
				t.Errorf("Make(%d, %d): %v, %v", came, dropped, c, e)
			}
			if x, y, e := Read(c); x != came || y != dropped || e != api.OK {
				t.Errorf("Read(%v): %d, %d, %v", c, x, y, e)
			}
		}
	}
}

// P4.1: a part that is no whole number from 0 to MaxCount makes no count, wherever it stands; -0 is 0.
func TestReadOfParts(t *testing.T) {
	minus := math.Copysign(0, -1)
	good := map[float64]int64{0: 0, 1: 1, 3: 3, 1 << 51: 1 << 51, top - 1: top - 1, top: top}
	bad := []float64{math.NaN(), math.Inf(1), math.Inf(-1), -1, -top, -0.5, -math.SmallestNonzeroFloat64,
		math.SmallestNonzeroFloat64, 0.5, 1.5, 1e-9, 2.0000000001, 1<<51 - 0.5, top - 0.5, top + 1, 1 << 53, 1 << 63, 1 << 64, 1e300, math.MaxFloat64}
	for x, a := range good {
		for y, b := range good {
			if came, dropped, e := Read(complex(x, y)); came != a || dropped != b || e != api.OK {
				t.Errorf("Read(%v, %v): %d, %d, %v", x, y, came, dropped, e)
			}
		}
		if came, dropped, e := Read(complex(x, minus)); came != a || dropped != 0 || e != api.OK {
			t.Errorf("Read(%v, -0): %d, %d, %v", x, came, dropped, e)
		}
		if came, dropped, e := Read(complex(minus, x)); came != 0 || dropped != a || e != api.OK {
			t.Errorf("Read(-0, %v): %d, %d, %v", x, came, dropped, e)
		}
		for _, y := range bad {
			refused(t, x, y)
			refused(t, y, x)
		}
	}
	for _, x := range bad {
		for _, y := range bad {
			refused(t, x, y)
		}
	}
	if came, dropped, e := Read(complex(minus, minus)); came != 0 || dropped != 0 || e != api.OK {
		t.Errorf("Read(-0, -0): %d, %d, %v", came, dropped, e)
	}
}

func refused(t *testing.T, x, y float64) {
	t.Helper()
	if came, dropped, e := Read(complex(x, y)); came != 0 || dropped != 0 || e != api.ErrArg {
		t.Errorf("Read(%v, %v): %d, %d, %v", x, y, came, dropped, e)
	}
}

// P4.2: a new meter has no counters, and shares none with another one.
func TestNew(t *testing.T) {
	m, o := New(), New()
	holds(t, "new", m)
	if c := m.Get("rx"); c != 0 {
		t.Errorf("Get of none: %v", c)
	}
	if e := m.Add("rx", 1, 2); e != api.OK {
		t.Errorf("Add: %v", e)
	}
	holds(t, "its neighbour", o)
	holds(t, "itself", m, row("rx", 1, 2))
}

// P4.2: counters are told by rising names, bytes being held against each other; one of 0 is one too.
func TestAllByNames(t *testing.T) {
	m := with(t, row("tx", 0, 4), row("rx", 3, 1), row("b", 0, 0), row("ab", 1, 0), row("a-z", 0, 1), row("-", 7, 0), row("abc", 2, 0), row("a", 5, 5), row("rx", 2, 0))
	holds(t, "names", m, row("-", 7, 0), row("a", 5, 5), row("a-z", 0, 1), row("ab", 1, 0), row("abc", 2, 0), row("b", 0, 0), row("rx", 5, 1), row("tx", 0, 4))
}

// P4.2: which names may be.
func TestNames(t *testing.T) {
	long := strings.Repeat("z", api.MaxName)
	for _, name := range []string{"a", "z", "-", "--", "abcdefghijklmnopqrstuvwxyz", "rx-drop", long, strings.Repeat("-", api.MaxName)} {
		holds(t, name, with(t, row(name, 1, 2)), row(name, 1, 2))
	}
	m := with(t, row("a", 1, 1))
	for _, name := range []string{"", long + "z", strings.Repeat("a", 1000), "A", "rX", "a b", " ", "a_b", "a.b", "a0", "9", "\x00", "a\x00", "ä", "aé", "\xff", "ß", "a\n", "rx-drop!", strings.Repeat("ä", 16)} {
		wrong(t, m, name, api.ErrArg)
	}
	for b := range 256 {
		ok := b == '-' || b >= 'a' && b <= 'z'
		for _, name := range []string{string([]byte{byte(b)}), "a" + string([]byte{byte(b)}), string([]byte{byte(b), 'a'}), "x" + string([]byte{byte(b)}) + "y"} {
			if e := New().Add(name, 1, 1); (e == api.OK) != ok || !ok && e != api.ErrArg {
				t.Errorf("Add(%q): %v", name, e)
			}
		}
	}
	holds(t, "wrong names", m, row("a", 1, 1))
}

// wrong is whether a name is refused, with a part that may be and with one that may not.
func wrong(t *testing.T, m *Meter, name string, want api.Errno) {
	t.Helper()
	for _, n := range []int64{0, 1, -1, top, top + 1} {
		if e := m.Add(name, n, 0); e != want {
			t.Errorf("Add(%q, %d, 0): %v, want %v", name, n, e, want)
		}
		if c := m.Get(name); c != 0 {
			t.Errorf("Get(%q): %v", name, c)
		}
	}
}

// P4.2: parts that may not be are refused, also where the counter is there, and make none.
func TestParts(t *testing.T) {
	for came, a := range numbers() {
		for dropped, b := range numbers() {
			m := New()
			e := m.Add("rx", came, dropped)
			if !a || !b {
				if e != api.ErrArg || len(m.All()) != 0 {
					t.Errorf("Add(rx, %d, %d): %v, %v", came, dropped, e, m.All())
				}
				m = with(t, row("rx", 1, 2))
				if e := m.Add("rx", came, dropped); e != api.ErrArg {
					t.Errorf("Add(rx, %d, %d): %v", came, dropped, e)
				}
				holds(t, "wrong parts", m, row("rx", 1, 2))
				continue
			}
			if e != api.OK {
				t.Errorf("Add(rx, %d, %d): %v", came, dropped, e)
			}
			holds(t, "parts", m, row("rx", came, dropped))
		}
	}
}

// P4.2: a part may come up to MaxCount, each by itself; what would be above changes nothing.
func TestOver(t *testing.T) {
	for _, x := range []struct{ was, more [2]int64 }{
		{[2]int64{top, 0}, [2]int64{1, 0}}, {[2]int64{0, top}, [2]int64{0, 1}},
		{[2]int64{1, 0}, [2]int64{top, 0}}, {[2]int64{0, 1}, [2]int64{0, top}},
		{[2]int64{top, 5}, [2]int64{top, 5}}, {[2]int64{5, top}, [2]int64{5, top}},
		{[2]int64{top, top}, [2]int64{0, 1}}, {[2]int64{top, top}, [2]int64{1, 0}},
		{[2]int64{top - 1, 0}, [2]int64{2, 0}}, {[2]int64{0, top / 2}, [2]int64{0, top/2 + 1}},
	} {
		m := with(t, row("rx", x.was[0], x.was[1]))
		if e := m.Add("rx", x.more[0], x.more[1]); e != api.ErrOver {
			t.Errorf("%v and %v: %v", x.was, x.more, e)
		}
		holds(t, "over", m, row("rx", x.was[0], x.was[1]))
	}
	m := with(t, row("rx", top-1, top/2), row("rx", 1, top/2), row("rx", 0, 0))
	holds(t, "up to the edge", m, row("rx", top, top))
}

// P4.2: MaxMeter counters have room; one more name has none, the names that are there go on.
func TestFull(t *testing.T) {
	m := full(t)
	was := m.All()
	if len(was) != api.MaxMeter {
		t.Fatalf("%d counters", len(was))
	}
	for _, n := range []int64{0, 1, top} {
		if e := m.Add("one-more", n, 0); e != api.ErrFull {
			t.Errorf("Add(one-more, %d, 0): %v", n, e)
		}
	}
	holds(t, "full", m, was...)
	wrong(t, m, "One-more", api.ErrArg)
	if e := m.Add("one-more", -1, 0); e != api.ErrArg {
		t.Errorf("ErrArg is named ahead of ErrFull: %v", e)
	}
	if e := m.Add(label(9), 0, top); e != api.ErrOver {
		t.Errorf("Add to one that is there: %v", e)
	}
	holds(t, "full, refused", m, was...)
	if e := m.Add(label(9), 1, 1); e != api.OK {
		t.Errorf("Add to one that is there: %v", e)
	}
	was[9].Came++
	was[9].Dropped++
	holds(t, "full, and more", m, was...)
}

// P4.2: a part of the sum that would be above MaxCount is MaxCount, the other one is not touched by it.
func TestTotalBounded(t *testing.T) {
	for _, l := range [][]api.Count{
		{row("a", top, 1), row("b", 1, 2)}, {row("a", 1, top), row("b", 2, 1)},
		{row("a", top, top), row("b", top, top)}, {row("a", top-1, 0), row("b", 1, 0)},
		{row("a", top-1, 0), row("b", 2, 3)}, {row("a", 0, top-3), row("b", 0, 1), row("c", 0, 1), row("d", 0, 1)},
	} {
		holds(t, "total", with(t, l...), l...)
	}
	m := New()
	var l []api.Count
	for i := range api.MaxMeter {
		l = append(l, row(label(i), top, int64(i)))
		if e := m.Add(label(i), top, int64(i)); e != api.OK {
			t.Errorf("counter %d: %v", i, e)
		}
	}
	holds(t, "all at the top", m, l...)
}

// P4.3: all counters of all meters are added, by their names; what was joined stays.
func TestJoin(t *testing.T) {
	m := with(t, row("rx", 5, 1), row("tx", 0, 4))
	a := with(t, row("rx", 1, 1), row("arp", 0, 0))
	b := with(t, row("udp", 7, 0), row("rx", 2, 3))
	if e := m.Join(a, b, New(), a); e != api.OK {
		t.Errorf("Join: %v", e)
	}
	holds(t, "joined", m, row("arp", 0, 0), row("rx", 9, 6), row("tx", 0, 4), row("udp", 7, 0))
	holds(t, "the first", a, row("arp", 0, 0), row("rx", 1, 1))
	holds(t, "the second", b, row("rx", 2, 3), row("udp", 7, 0))
	if e := m.Join(); e != api.OK {
		t.Errorf("Join of none: %v", e)
	}
	if e := m.Join([]*Meter{}...); e != api.OK {
		t.Errorf("Join of an empty list: %v", e)
	}
	holds(t, "joined with none", m, row("arp", 0, 0), row("rx", 9, 6), row("tx", 0, 4), row("udp", 7, 0))
	if e := New().Join(New()); e != api.OK {
		t.Errorf("Join of an empty one: %v", e)
	}
}

// P4.3: what was joined is not shared: each goes on by itself.
func TestJoinSharesNothing(t *testing.T) {
	m, o := New(), with(t, row("rx", 1, 1))
	if e := m.Join(o); e != api.OK {
		t.Fatal(e)
	}
	m.Add("rx", 1, 0)
	o.Add("tx", 0, 1)
	holds(t, "m", m, row("rx", 2, 1))
	holds(t, "o", o, row("rx", 1, 1), row("tx", 0, 1))
	if e := o.Join(m, o); e != api.OK {
		t.Fatal(e)
	}
	holds(t, "o", o, row("rx", 4, 3), row("tx", 0, 2))
	holds(t, "m", m, row("rx", 2, 1))
}

// P4.3: a meter may be among those that are joined to it, also several times: as it was ahead.
func TestJoinItself(t *testing.T) {
	m, o := with(t, row("rx", 5, 1), row("tx", 0, 4)), with(t, row("rx", 1, 1), row("arp", 2, 0))
	if e := m.Join(m); e != api.OK {
		t.Errorf("Join(m): %v", e)
	}
	holds(t, "twice", m, row("rx", 10, 2), row("tx", 0, 8))
	if e := m.Join(m, m); e != api.OK {
		t.Errorf("Join(m, m): %v", e)
	}
	holds(t, "three times", m, row("rx", 30, 6), row("tx", 0, 24))
	if e := m.Join(o, m); e != api.OK {
		t.Errorf("Join(o, m): %v", e)
	}
	holds(t, "behind another", m, row("arp", 2, 0), row("rx", 61, 13), row("tx", 0, 48))
	if e := m.Join(m, o, m); e != api.OK {
		t.Errorf("Join(m, o, m): %v", e)
	}
	holds(t, "around another", m, row("arp", 8, 0), row("rx", 184, 40), row("tx", 0, 144))
	if e := full(t).Join(full(t)); e != api.OK {
		t.Errorf("one that is full: %v", e)
	}
	big := with(t, row("a", 1, 1), row("b", top/2+1, 0))
	if e := big.Join(big); e != api.ErrOver {
		t.Errorf("above the bound: %v", e)
	}
	holds(t, "as it was", big, row("a", 1, 1), row("b", top/2+1, 0))
}

// P4.3: with an error in the middle the meter is as it was.
func TestJoinRefused(t *testing.T) {
	m := with(t, row("c", top-1, 0), row("e", 1, 1))
	a := with(t, row("a", 1, 1), row("c", 1, 0), row("z", 2, 2))
	b := with(t, row("b", 1, 1), row("c", 1, 0), row("d", 3, 3))
	if e := m.Join(a, b, a); e != api.ErrOver {
		t.Errorf("Join: %v", e)
	}
	holds(t, "as it was", m, row("c", top-1, 0), row("e", 1, 1))
	holds(t, "a", a, row("a", 1, 1), row("c", 1, 0), row("z", 2, 2))
	if e := m.Join(a); e != api.OK {
		t.Errorf("Join of what fits: %v", e)
	}
	holds(t, "later", m, row("a", 1, 1), row("c", top, 0), row("e", 1, 1), row("z", 2, 2))

	f := full(t)
	was := f.All()
	if e := f.Join(with(t, row(label(3), 1, 1), row("zz", 0, 0))); e != api.ErrFull {
		t.Errorf("Join to a full one: %v", e)
	}
	holds(t, "full as it was", f, was...)
}

// P4.3: the error is the first one, meter by meter, each meter's counters by rising names.
func TestJoinFirstError(t *testing.T) {
	over, none := row(label(9), top, 0), row("a", 1, 0)
	for _, x := range []struct {
		what string
		l    []*Meter
		want api.Errno
	}{
		{"names rise: a, then n-..", []*Meter{with(t, over, none)}, api.ErrFull},
		{"names rise: n-.., then z", []*Meter{with(t, row("z", 1, 0), over)}, api.ErrOver},
		{"the first meter's is first: full", []*Meter{with(t, row("z", 1, 0)), with(t, over)}, api.ErrFull},
		{"the first meter's is first: over", []*Meter{with(t, over), with(t, none)}, api.ErrOver},
		{"the first one has none", []*Meter{New(), with(t, row(label(1), 1, 1)), with(t, over), with(t, none)}, api.ErrOver},
		{"nil is told ahead of all", []*Meter{with(t, over), with(t, none), nil}, api.ErrNil},
	} {
		m := full(t)
		was := m.All()
		if e := m.Join(x.l...); e != x.want {
			t.Errorf("%s: %v, want %v", x.what, e, x.want)
		}
		holds(t, x.what, m, was...)
	}
}

// P4.3 and R3: a nil meter, or one that New did not make, as m and among those that are joined.
func TestNil(t *testing.T) {
	for what, m := range map[string]*Meter{"nil": nil, "not made": new(Meter)} {
		for _, e := range []api.Errno{m.Add("rx", 1, 1), m.Add("", -1, top+1), m.Join(), m.Join(New()), m.Join(nil), m.Join(m), m.Join(with(t, row("a", 1, 1)), nil)} {
			if e != api.ErrNil {
				t.Errorf("%s: %v", what, e)
			}
		}
		if c := m.Get("rx"); c != 0 {
			t.Errorf("%s: Get: %v", what, c)
		}
		if c := m.Total(); c != 0 {
			t.Errorf("%s: Total: %v", what, c)
		}
		if l := m.All(); len(l) != 0 {
			t.Errorf("%s: All: %v", what, l)
		}
		o, a := with(t, row("rx", 1, 1)), with(t, row("tx", 1, 1))
		for _, l := range [][]*Meter{{m}, {m, a}, {a, m}, {a, m, a}, {o, m}} {
			if e := o.Join(l...); e != api.ErrNil {
				t.Errorf("%s is joined: %v", what, e)
			}
			holds(t, what, o, row("rx", 1, 1))
		}
	}
}

// P4.4: counts that are added or joined in whatever order make the same meter.
func TestAnyOrder(t *testing.T) {
	l := []api.Count{row("rx", 3, 1), row("tx", 0, 4), row("rx", 1<<51, 0), row("arp", 1, 1<<51), row("arp", 1<<51-1, 1<<51), row("rx", 2, 0), row("a-b", 0, 0)}
	want := []api.Count{row("a-b", 0, 0), row("arp", 1<<51, top), row("rx", 1<<51+5, 1), row("tx", 0, 4)}
	n := 0
	orders(len(l), func(order []int) {
		n++
		added, joined, parts := New(), New(), []*Meter{}
		for _, i := range order {
			if e := added.Add(l[i].Name, l[i].Came, l[i].Dropped); e != api.OK {
				t.Errorf("%v: %v", order, e)
			}
			parts = append(parts, with(t, l[i]))
		}
		if e := joined.Join(parts...); e != api.OK {
			t.Errorf("%v: %v", order, e)
		}
		holds(t, "added", added, want...)
		holds(t, "joined", joined, want...)
		// Those behind are put together first, then joined to those in front.
		front, behind := New(), New()
		front.Join(parts[:3]...)
		behind.Join(parts[3:]...)
		if e := front.Join(behind); e != api.OK {
			t.Errorf("%v: %v", order, e)
		}
		holds(t, "joined by halves", front, want...)
	})
	if n != 5040 {
		t.Errorf("%d orders", n)
	}
}

// orders hands over every order of the numbers below n.
func orders(n int, each func([]int)) {
	var lay func(done, left []int)
	lay = func(done, left []int) {
		if len(left) == 0 {
			each(done)
			return
		}
		for i, x := range left {
			lay(append(slices.Clone(done), x), slices.Delete(slices.Clone(left), i, i+1))
		}
	}
	all := make([]int, n)
	for i := range all {
		all[i] = i
	}
	lay(nil, all)
}

// P4.4: whether a join is refused does not hang on the order either, though which error comes may.
func TestRefusedInAnyOrder(t *testing.T) {
	l := []*Meter{with(t, row("rx", 1<<51, 0)), with(t, row("rx", 1<<51, 1)), with(t, row("rx", 1, 0), row("tx", 1, 1)), with(t, row("a", 1, 1))}
	orders(len(l), func(order []int) {
		m := with(t, row("b", 1, 1))
		var joined []*Meter
		for _, i := range order {
			joined = append(joined, l[i])
		}
		if e := m.Join(joined...); e != api.ErrOver {
			t.Errorf("%v: %v", order, e)
		}
		holds(t, "refused", m, row("b", 1, 1))
	})
}

// P4.2 to P4.4: long rows of calls, held against a meter of whole numbers.
func TestAgainstNumbers(t *testing.T) {
	seed := uint32(1)
	draw := func(n int) int {
		seed = seed*1664525 + 1013904223
		return int(uint64(seed) * uint64(n) >> 32)
	}
	sizes := []int64{0, 1, 2, 1000, 1 << 40, 1 << 50, 1 << 51, top - 1, top, top + 1, -1}
	for round := range 60 {
		m, plain := New(), map[string][2]int64{}
		for range 300 {
			name := label(draw(80))
			came, dropped := sizes[draw(len(sizes))], sizes[draw(len(sizes))]
			got, want := m.Add(name, came, dropped), addTo(plain, name, came, dropped)
			if got != want {
				t.Fatalf("round %d: Add(%s, %d, %d): %v, want %v", round, name, came, dropped, got, want)
			}
		}
		var names []string
		for name := range plain {
			names = append(names, name)
		}
		slices.Sort(names)
		var want []api.Count
		for _, name := range names {
			want = append(want, row(name, plain[name][0], plain[name][1]))
		}
		holds(t, "round "+strconv.Itoa(round), m, want...)
	}
}

// addTo is P4.2's Add, by whole numbers.
func addTo(m map[string][2]int64, name string, came, dropped int64) api.Errno {
	if came < 0 || came > top || dropped < 0 || dropped > top {
		return api.ErrArg
	}
	was, ok := m[name]
	if !ok && len(m) == api.MaxMeter {
		return api.ErrFull
	}
	if was[0]+came > top || was[1]+dropped > top {
		return api.ErrOver
	}
	m[name] = [2]int64{was[0] + came, was[1] + dropped}
	return api.OK
}

// R5: an answer is new memory, list and names, and a name that is handed in is not kept.
func TestMemoryOfItsOwn(t *testing.T) {
	name := strings.Repeat("r", 8)
	m := with(t, row(name, 1, 1), row("tx", 1, 1))
	first := m.All()
	m.Add(name, 1, 1) // the name is there already
	for kept := range m.counters {
		if unsafe.StringData(kept) == unsafe.StringData(name) {
			t.Error("the name that was handed in is kept")
		}
	}
	for _, c := range append(m.All(), first...) {
		if unsafe.StringData(c.Name) == unsafe.StringData(name) {
			t.Error("the name that was handed in is answered")
		}
	}
	if a, b := m.All(), m.All(); unsafe.StringData(a[0].Name) == unsafe.StringData(b[0].Name) {
		t.Error("two answers share a name")
	}
	first[0] = row("x", 9, 9)
	holds(t, "an answer that was changed", m, row(name, 2, 2), row("tx", 1, 1))
	l := []*Meter{with(t, row("a", 1, 1)), m}
	was := slices.Clone(l)
	if e := m.Join(l...); e != api.OK || !slices.Equal(l, was) {
		t.Errorf("Join: %v, and the list was changed: %v", e, !slices.Equal(l, was))
	}
	l[0] = nil
	holds(t, "a list that was changed", m, row("a", 1, 1), row(name, 4, 4), row("tx", 2, 2))
}
