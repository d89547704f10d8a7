package seq

import (
	"math"
	"testing"
)

const (
	all  = 1 << 32
	half = 1 << 31
)

// num is a number modulo 2^32, however great or small it was.
func num(x int64) uint32 { return uint32(((x % all) + all) % all) }

// ahead is b - a modulo 2^32, from 0 on, by numbers that do not go around.
func ahead(a, b uint32) int64 { return (int64(b) - int64(a) + all) % all }

// starts are where numbers begin: around 0, around the half, in between.
func starts() []uint32 {
	return []uint32{0, 1, 2, 3, 1000, 0x12345678, half - 2, half - 1, half, half + 1, half + 2, 0xfedcba98, all - 1000, all - 3, all - 2, all - 1}
}

// gaps are how far apart numbers are: at the edges of the half and of all, and in between.
func gaps() []int64 {
	return []int64{0, 1, 2, 3, 9, 10, 11, 255, 65535, 65536, 1 << 30, half - 3, half - 2, half - 1, half, half + 1, half + 2, half + 3, 3 << 30, all - 65536, all - 11, all - 10, all - 9, all - 3, all - 2, all - 1}
}

// P3.1: the chapter's examples.
func TestExamplesOfOrder(t *testing.T) {
	const last = all - 1
	if !Less(last, 1) {
		t.Error("Less(2^32 - 1, 1): false")
	}
	if n := Behind(last, 1); n != 2 {
		t.Errorf("Behind(2^32 - 1, 1): %d", n)
	}
	if In(5, 3, 2) {
		t.Error("In(5, 3, 2): true")
	}
	if !In(4, 3, 2) {
		t.Error("In(4, 3, 2): false")
	}
}

// P3.2: the chapter's examples.
func TestExamplesOfTakes(t *testing.T) {
	if !Takes(90, 20, 100, 10) {
		t.Error("Takes(90, 20, 100, 10): false")
	}
	if Takes(90, 10, 100, 10) {
		t.Error("Takes(90, 10, 100, 10): true")
	}
	if !Takes(100, 0, 100, 0) {
		t.Error("Takes(100, 0, 100, 0): false")
	}
	if Takes(100, 1, 100, 0) {
		t.Error("Takes(100, 1, 100, 0): true")
	}
}

// P3.1: order written out, at the edges of the half and where numbers go around.
func TestOrderWrittenOut(t *testing.T) {
	rows := []struct {
		a, b   uint32
		less   bool
		behind int
		max    uint32
	}{
		{0, 0, false, 0, 0},
		{7, 7, false, 0, 7},
		{all - 1, all - 1, false, 0, all - 1},
		{half, half, false, 0, half},
		{0, 1, true, 1, 1},
		{1, 0, false, -1, 1},
		{all - 1, 0, true, 1, 0},
		{0, all - 1, false, -1, 0},
		{all - 1, 1, true, 2, 1},
		{1, all - 1, false, -2, 1},
		{all - 10, 10, true, 20, 10},
		{10, all - 10, false, -20, 10},
		{0, half - 1, true, half - 1, half - 1},
		{half - 1, 0, false, -half + 1, half - 1},
		{0, half, false, -half, 0},
		{half, 0, false, -half, half},
		{0, half + 1, false, -half + 1, 0},
		{half + 1, 0, true, half - 1, 0},
		{5, half + 4, true, half - 1, half + 4},
		{5, half + 5, false, -half, 5},
		{5, half + 6, false, -half + 1, 5},
		{all - 1, half - 2, true, half - 1, half - 2},
		{all - 1, half - 1, false, -half, all - 1},
		{all - 1, half, false, -half + 1, all - 1},
	}
	for _, r := range rows {
		if less := Less(r.a, r.b); less != r.less {
			t.Errorf("Less(%d, %d): %v", r.a, r.b, less)
		}
		if n := Behind(r.a, r.b); n != r.behind {
			t.Errorf("Behind(%d, %d): %d, want %d", r.a, r.b, n, r.behind)
		}
		if m := Max(r.a, r.b); m != r.max {
			t.Errorf("Max(%d, %d): %d, want %d", r.a, r.b, m, r.max)
		}
	}
}

// P3.1: order by the document's words, from everywhere, at all gaps.
func TestOrderFromEverywhere(t *testing.T) {
	for _, a := range starts() {
		for _, g := range gaps() {
			b := num(int64(a) + g)
			less := g >= 1 && g <= half-1
			behind, most := g, a
			if g >= half {
				behind = g - all
			}
			if less {
				most = b
			}
			if Less(a, b) != less || int64(Behind(a, b)) != behind || Max(a, b) != most {
				t.Errorf("from %d to %d: %v %d %d, want %v %d %d", a, b, Less(a, b), Behind(a, b), Max(a, b), less, behind, most)
			}
		}
	}
}

// P3.1: windows written out.
func TestWindowsWrittenOut(t *testing.T) {
	rows := []struct {
		x, from, n uint32
		want       bool
	}{
		{0, 0, 0, false},
		{3, 3, 0, false},
		{2, 3, 0, false},
		{4, 3, 0, false},
		{all - 1, all - 1, 0, false},
		{3, 3, 1, true},
		{2, 3, 1, false},
		{4, 3, 1, false},
		{2, 3, 2, false},
		{3, 3, 2, true},
		{4, 3, 2, true},
		{5, 3, 2, false},
		{all - 2, all - 2, 4, true},
		{all - 1, all - 2, 4, true},
		{0, all - 2, 4, true},
		{1, all - 2, 4, true},
		{2, all - 2, 4, false},
		{all - 3, all - 2, 4, false},
		{half - 1, 0, half, true},
		{half, 0, half, false},
		{half, 0, half + 1, true},
		{half + 1, 0, half + 1, false},
		{half - 2, 0, half - 1, true},
		{half - 1, 0, half - 1, false},
		{all - 1, 0, half, false},
		{100, 100, all - 1, true},
		{101, 100, all - 1, true},
		{99, 100, all - 1, false},
		{98, 100, all - 1, true},
		{0, 100, all - 1, true},
		{all - 1, 100, all - 1, true},
		{100 + half, 100, all - 1, true},
		{all - 1, 0, all - 1, false},
		{all - 2, 0, all - 1, true},
		{0, 1, all - 1, false},
	}
	for _, r := range rows {
		if in := In(r.x, r.from, r.n); in != r.want {
			t.Errorf("In(%d, %d, %d): %v", r.x, r.from, r.n, in)
		}
	}
}

// P3.1: windows of all sizes from everywhere: first and last are in, those beside them are not.
func TestWindowsFromEverywhere(t *testing.T) {
	for _, from := range starts() {
		for _, n := range gaps() {
			for _, g := range gaps() {
				for d := int64(-1); d <= 1; d++ {
					x := num(int64(from) + g + d)
					if want := ahead(from, x) < n; In(x, from, uint32(n)) != want {
						t.Errorf("In(%d, %d, %d): %v", x, from, n, !want)
					}
				}
			}
		}
	}
}

// takes is the answer by the document's words, by numbers that do not go around.
func takes(seq uint32, n int64, next, window uint32) bool {
	in := func(x uint32) bool { return ahead(next, x) < int64(window) }
	if n < 0 {
		return false
	}
	if n == 0 {
		if window == 0 {
			return seq == next
		}
		return in(seq)
	}
	return window != 0 && (in(seq) || in(num(int64(seq)+(n-1)%all)))
}

// P3.2: segments written out.
func TestTakesWrittenOut(t *testing.T) {
	rows := []struct {
		seq          uint32
		n            int
		next, window uint32
		want         bool
	}{
		// Of fewer than no numbers: never, not even where it would be awaited.
		{100, -1, 100, 0, false},
		{100, -1, 100, 10, false},
		{105, -1, 100, 10, false},
		{105, -5, 100, 10, false},
		{100, math.MinInt, 100, 10, false},
		{100, math.MinInt, 100, 0, false},
		{100, math.MinInt32, 100, all - 1, false},
		{0, -1, 0, all - 1, false},
		// Of no numbers, no room: what is awaited alone.
		{100, 0, 100, 0, true},
		{99, 0, 100, 0, false},
		{101, 0, 100, 0, false},
		{0, 0, 0, 0, true},
		{all - 1, 0, 0, 0, false},
		{0, 0, all - 1, 0, false},
		{all - 1, 0, all - 1, 0, true},
		// Of no numbers, with room: all that is in the window.
		{99, 0, 100, 10, false},
		{100, 0, 100, 10, true},
		{109, 0, 100, 10, true},
		{110, 0, 100, 10, false},
		{100, 0, 100, 1, true},
		{101, 0, 100, 1, false},
		{99, 0, 100, all - 1, false},
		{98, 0, 100, all - 1, true},
		{0, 0, all - 2, 4, true},
		{1, 0, all - 2, 4, true},
		{2, 0, all - 2, 4, false},
		// Of numbers, no room: never.
		{100, 1, 100, 0, false},
		{100, 2, 100, 0, false},
		{99, 2, 100, 0, false},
		{99, 1, 100, 0, false},
		{0, 1, 0, 0, false},
		{all - 1, 2, 0, 0, false},
		// Of numbers, with room: the first or the last is in the window.
		{100, 1, 100, 1, true},
		{100, 1, 100, 10, true},
		{100, 10, 100, 10, true},
		{100, 11, 100, 10, true},
		{100, 1000, 100, 10, true},
		{109, 1, 100, 10, true},
		{109, 100, 100, 10, true},
		{110, 1, 100, 10, false},
		{110, 100, 100, 10, false},
		{90, 9, 100, 10, false},
		{90, 10, 100, 10, false},
		{90, 11, 100, 10, true},
		{90, 20, 100, 10, true},
		{99, 1, 100, 10, false},
		{99, 2, 100, 10, true},
		{99, 11, 100, 10, true},
		// Both ends are outside, though all of the window lies between them.
		{99, 12, 100, 10, false},
		{90, 21, 100, 10, false},
		{90, 30, 100, 10, false},
		{99, 2, 100, 1, true},
		{99, 3, 100, 1, false},
		// Around.
		{all - 10, 20, 0, 10, true},
		{all - 10, 10, 0, 10, false},
		{all - 10, 11, 0, 10, true},
		{all - 10, 21, 0, 10, false},
		{all - 5, 1, all - 5, 10, true},
		{4, 1, all - 5, 10, true},
		{5, 1, all - 5, 10, false},
		{all - 6, 2, all - 5, 10, true},
		{all - 6, 11, all - 5, 10, true},
		{all - 6, 12, all - 5, 10, false},
		// Windows as great as may be.
		{100, 1, 100, all - 1, true},
		{99, 1, 100, all - 1, false},
		{99, 2, 100, all - 1, true},
		{98, 1, 100, all - 1, true},
		{98, 2, 100, all - 1, true},
	}
	for _, r := range rows {
		if ok := Takes(r.seq, r.n, r.next, r.window); ok != r.want {
			t.Errorf("Takes(%d, %d, %d, %d): %v", r.seq, r.n, r.next, r.window, ok)
		}
	}
}

// P3.2: a segment's last number goes around as well, however many numbers it has.
func TestTakesOfVeryMany(t *testing.T) {
	rows := []struct {
		n    int64
		want bool
	}{
		{all - 90, false},
		{all - 1, false},
		{all, false},
		{all + 1, false},
		{all + 10, false},
		{all + 11, true},
		{all + 20, true},
		{all + 21, false},
		{3*all + 11, true},
		{3*all + 10, false},
		{math.MaxInt64, false},
		{math.MaxInt64 - all + 1 + 12, true},
	}
	for _, r := range rows {
		if ok := Takes(90, int(r.n), 100, 10); ok != r.want {
			t.Errorf("Takes(90, %d, 100, 10): %v", r.n, ok)
		}
	}
	// The last number of 2^63 - 1 is two below the first one.
	if !Takes(102, math.MaxInt64, 100, 1) || Takes(101, math.MaxInt64, 100, 1) {
		t.Error("segments of 2^63 - 1 numbers")
	}
}

// P3.2: segments by the document's words, from everywhere, of all sizes.
func TestTakesFromEverywhere(t *testing.T) {
	sizes := append([]int64{math.MinInt64, -all, -half, -2, -1, all, all + 1, all + 10, 2 * all, math.MaxInt64}, gaps()...)
	for _, next := range starts() {
		for _, window := range gaps() {
			for _, g := range gaps() {
				seq := num(int64(next) + g)
				for _, n := range sizes {
					want := takes(seq, n, next, uint32(window))
					if Takes(seq, int(n), next, uint32(window)) != want {
						t.Fatalf("Takes(%d, %d, %d, %d): %v", seq, n, next, window, !want)
					}
				}
			}
		}
	}
}

// P3.3: within a half the order is one, wherever it begins: that of the steps from there.
func TestOrderIsOne(t *testing.T) {
	steps := []int64{0, 1, 2, 3, 1000, 1 << 20, 1 << 30, half - 3, half - 2, half - 1}
	for _, from := range starts() {
		for i, p := range steps {
			for j, q := range steps {
				a, b := num(int64(from)+p), num(int64(from)+q)
				if Less(a, b) != (i < j) || int64(Behind(a, b)) != q-p {
					t.Errorf("from %d, steps %d and %d: %v %d", from, p, q, Less(a, b), Behind(a, b))
				}
				if Max(a, b) != num(int64(from)+max(p, q)) || Max(a, b) != Max(b, a) {
					t.Errorf("from %d, steps %d and %d: %d and %d", from, p, q, Max(a, b), Max(b, a))
				}
			}
		}
	}
}

// P3.3: a window has just n numbers.
func TestWindowHasJustSoMany(t *testing.T) {
	for _, from := range starts() {
		for n := range uint32(20) {
			count := uint32(0)
			for d := int64(-30); d < 50; d++ {
				if In(num(int64(from)+d), from, n) {
					count++
				}
			}
			if count != n {
				t.Errorf("window of %d from %d: %d numbers", n, from, count)
			}
		}
		// Of a window that nearly all numbers are in, those that are not are counted.
		for n := range uint32(20) {
			count := uint32(0)
			for d := int64(-30); d < 50; d++ {
				if !In(num(int64(from)+d), from, all-1-n) {
					count++
				}
			}
			if count != n+1 {
				t.Errorf("window of %d from %d: %d numbers outside", all-1-n, from, count)
			}
		}
	}
}

// P3.3: whoever sends what is awaited is taken, if there is room or nothing that needs it.
func TestAwaitedIsTaken(t *testing.T) {
	for _, next := range starts() {
		for _, n := range []int{0, 1, 2, 9, 10, 11, 1460, 65535, half - 1, half, all - 1} {
			for _, window := range gaps() {
				want := window > 0 || n == 0
				if Takes(next, n, next, uint32(window)) != want {
					t.Errorf("Takes(%d, %d, %d, %d): %v", next, n, next, window, !want)
				}
			}
		}
	}
}

// P3.3: what lies wholly behind the window, or ahead of it, is not taken, within a half.
func TestOutsideIsNotTaken(t *testing.T) {
	windows := []int64{0, 1, 2, 10, 65535, 1 << 30, half - 1}
	sizes := []int64{1, 2, 10, 1460, 65535, 1 << 29}
	for _, next := range starts() {
		for _, w := range windows {
			for _, n := range sizes {
				for _, away := range []int64{0, 1, 2, 1000, 1 << 29} {
					old := num(int64(next) - n - away)
					if Takes(old, int(n), next, uint32(w)) {
						t.Errorf("behind: Takes(%d, %d, %d, %d)", old, n, next, w)
					}
					if old = num(int64(next) - 1 - away); Takes(old, 0, next, uint32(w)) {
						t.Errorf("behind, of none: Takes(%d, 0, %d, %d)", old, next, w)
					}
					far := num(int64(next) + w + away)
					if Takes(far, int(n), next, uint32(w)) {
						t.Errorf("ahead: Takes(%d, %d, %d, %d)", far, n, next, w)
					}
					if Takes(far, 0, next, uint32(w)) != (w == 0 && away == 0) {
						t.Errorf("ahead, of none: Takes(%d, 0, %d, %d)", far, next, w)
					}
				}
			}
		}
	}
}
