package steer

import (
	"math/big"
	"slices"
	"strings"
	"testing"

	"stevedore/api"
)

const last = 1<<32 - 1

// known is a key for which hashes are published.
const known = "\x6d\x5a\x56\xda\x25\x5b\x0e\xc2\x41\x67\x25\x3d\x43\xa3\x8f\xb0\xd0\xca\x2b\xcb" +
	"\xae\x7b\x30\xb4\x77\xcb\x2d\xa3\x80\x30\xf2\x0c\x6a\x42\xb7\x3b\xbe\xac\x01\xfa"

// drawer makes bytes that look like chance and are the same each time.
type drawer uint64

func (d *drawer) next() uint64 {
	*d = *d*6364136223846793005 + 1442695040888963407
	return uint64(*d >> 24)
}

func (d *drawer) text(n int) string {
	b := make([]byte, n)
	for i := range b {
		b[i] = byte(d.next() >> 8)
	}
	return string(b)
}

func (d *drawer) pair() api.Pair {
	return pair(uint32(d.next()), uint16(d.next()), uint32(d.next()), uint16(d.next()))
}

func pair(from uint32, fromPort uint16, to uint32, toPort uint16) api.Pair {
	return api.Pair{From: api.Addr{IP: from, Port: fromPort}, To: api.Addr{IP: to, Port: toPort}}
}

// ip is the address of four numbers.
func ip(a, b, c, d uint32) uint32 { return a<<24 | b<<16 | c<<8 | d }

// plain is the hash by its definition: the key is one great number, out of which each window is cut.
func plain(key, text string) uint32 {
	k, t := new(big.Int).SetBytes([]byte(key)), new(big.Int).SetBytes([]byte(text))
	var hash uint32
	for i := range 8 * len(text) {
		if t.Bit(8*len(text)-1-i) == 0 {
			continue
		}
		window := new(big.Int).Rsh(k, uint(8*len(key)-32-i))
		hash ^= uint32(window.And(window, big.NewInt(last)).Uint64())
	}
	return hash
}

// hash is what Hash answers where it must not refuse.
func hash(t *testing.T, key, text string) uint32 {
	t.Helper()
	h, e := Hash(key, text)
	if e != api.OK {
		t.Fatalf("Hash(%q, %q): %v", key, text, e)
	}
	return h
}

// P5.1: the chapter's example, whatever the key.
func TestHashOfNoBytes(t *testing.T) {
	for _, key := range []string{known, strings.Repeat("\xff", api.KeySize), strings.Repeat("\x00", api.KeySize)} {
		if h, e := Hash(key, ""); h != 0 || e != api.OK {
			t.Errorf("Hash(%q, nothing): %d, %v", key, h, e)
		}
	}
}

// P5.1: one bit of the text is the window at its place, up to the last place of the longest text, whose window ends one bit ahead of the key's end.
func TestHashOfOneBit(t *testing.T) {
	for place := range 8 * api.MaxHash {
		text := make([]byte, api.MaxHash)
		text[place/8] = 0x80 >> (place % 8)
		if got, want := hash(t, known, string(text)), plain(known, string(text)); got != want || got == 0 {
			t.Errorf("place %d: %#x, want %#x", place, got, want)
		}
	}
	key := strings.Repeat("\x00", api.KeySize-1) + "\x02"
	if got := hash(t, key, strings.Repeat("\x00", api.MaxHash-1)+"\x01"); got != 1 {
		t.Errorf("last bit: %#x, want 1", got)
	}
	if got := hash(t, key, strings.Repeat("\xff", api.MaxHash-1)+"\xfe"); got != 0 {
		t.Errorf("all bits but the last: %#x, want 0", got)
	}
	unread := strings.Repeat("\x00", api.KeySize-1) + "\x01"
	if got := hash(t, unread, strings.Repeat("\xff", api.MaxHash)); got != 0 {
		t.Errorf("the key's last bit: %#x, want 0", got)
	}
	first := "\x80" + strings.Repeat("\x00", api.KeySize-1)
	if got := hash(t, first, "\x80"); got != 1<<31 {
		t.Errorf("first bit of both: %#x, want %#x", got, uint32(1<<31))
	}
	if got := hash(t, first, "\x7f"); got != 0 {
		t.Errorf("all bits of a byte but the first: %#x, want 0", got)
	}
}

// P5.1: texts of all lengths, by many keys.
func TestHashByDefinition(t *testing.T) {
	d := drawer(5)
	for range 40 {
		key := d.text(api.KeySize)
		for n := range api.MaxHash + 1 {
			text := d.text(n)
			if got, want := hash(t, key, text), plain(key, text); got != want {
				t.Fatalf("Hash(%q, %q): %#x, want %#x", key, text, got, want)
			}
		}
	}
}

// P5.1: what is refused, and that nothing else is.
func TestHashRefuses(t *testing.T) {
	long := strings.Repeat("k", 1000)
	for _, c := range []struct {
		key, text int
		want      api.Errno
	}{
		{0, 0, api.ErrArg},
		{0, 12, api.ErrArg},
		{api.KeySize - 1, 0, api.ErrArg},
		{api.KeySize - 1, 1, api.ErrArg},
		{api.KeySize - 1, api.MaxHash, api.ErrArg},
		{api.KeySize + 1, 0, api.ErrArg},
		{api.KeySize + 1, 1, api.ErrArg},
		{api.KeySize + 1, api.MaxHash, api.ErrArg},
		{1000, 12, api.ErrArg},
		{api.KeySize, api.MaxHash + 1, api.ErrArg},
		{api.KeySize, 1000, api.ErrArg},
		{api.KeySize - 1, api.MaxHash + 1, api.ErrArg},
		{api.KeySize, 0, api.OK},
		{api.KeySize, 1, api.OK},
		{api.KeySize, api.MaxHash - 1, api.OK},
		{api.KeySize, api.MaxHash, api.OK},
	} {
		h, e := Hash(long[:c.key], long[:c.text])
		if e != c.want {
			t.Errorf("Hash of a key of %d and a text of %d: %v, want %v", c.key, c.text, e, c.want)
		}
		if e != api.OK && h != 0 {
			t.Errorf("Hash of a key of %d and a text of %d: %d beside an error", c.key, c.text, h)
		}
	}
}

// P5.1: a pair's bytes, each field at its place.
func TestText(t *testing.T) {
	for _, c := range []struct {
		p    api.Pair
		want string
	}{
		{api.Pair{}, strings.Repeat("\x00", 12)},
		{pair(0x01020304, 0x090a, 0x05060708, 0x0b0c), "\x01\x02\x03\x04\x05\x06\x07\x08\x09\x0a\x0b\x0c"},
		{pair(0xfcfdfeff, 0, 0, 0), "\xfc\xfd\xfe\xff\x00\x00\x00\x00\x00\x00\x00\x00"},
		{pair(0, 0xfeff, 0, 0), "\x00\x00\x00\x00\x00\x00\x00\x00\xfe\xff\x00\x00"},
		{pair(0, 0, 0xfcfdfeff, 0), "\x00\x00\x00\x00\xfc\xfd\xfe\xff\x00\x00\x00\x00"},
		{pair(0, 0, 0, 0xfeff), "\x00\x00\x00\x00\x00\x00\x00\x00\x00\x00\xfe\xff"},
		{pair(last, 65535, last, 65535), strings.Repeat("\xff", 12)},
	} {
		if got := Text(c.p); got != c.want {
			t.Errorf("Text(%v): %q, want %q", c.p, got, c.want)
		}
	}
}

// P5.1: hashes that are published for the known key, of addresses alone, of pairs, and of a text of MaxHash bytes.
func TestPublishedHashes(t *testing.T) {
	for _, c := range []struct {
		p           api.Pair
		ends, whole uint32
	}{
		{pair(ip(66, 9, 149, 187), 2794, ip(161, 142, 100, 80), 1766), 0x323e8fc2, 0x51ccc178},
		{pair(ip(199, 92, 111, 2), 14230, ip(65, 69, 140, 83), 4739), 0xd718262a, 0xc626b0ea},
		{pair(ip(24, 19, 198, 95), 12898, ip(12, 22, 207, 184), 38024), 0xd2d0a5de, 0x5c2b394a},
		{pair(ip(38, 27, 205, 30), 48228, ip(209, 142, 163, 6), 2217), 0x82989176, 0xafc7327f},
		{pair(ip(153, 39, 163, 191), 44251, ip(202, 188, 127, 2), 1303), 0x5d1809c5, 0x10e828a2},
	} {
		if got, e := Pair(known, c.p); got != c.whole || e != api.OK {
			t.Errorf("Pair(%v): %#x, %v, want %#x", c.p, got, e, c.whole)
		}
		if got := hash(t, known, Text(c.p)[:8]); got != c.ends {
			t.Errorf("Hash of the addresses of %v: %#x, want %#x", c.p, got, c.ends)
		}
	}
	long := "\x3f\xfe\x25\x01\x02\x00\x1f\xff\x00\x00\x00\x00\x00\x00\x00\x07" +
		"\x3f\xfe\x25\x01\x02\x00\x00\x03\x00\x00\x00\x00\x00\x00\x00\x01" + "\x0a\xea\x06\xe6"
	if got := hash(t, known, long); got != 0x40207d3d {
		t.Errorf("Hash of %d bytes: %#x, want 0x40207d3d", len(long), got)
	}
}

// P5.1: a pair is refused by the key alone.
func TestPairRefuses(t *testing.T) {
	p := pair(ip(10, 0, 0, 1), 80, ip(10, 0, 0, 2), 4000)
	for _, key := range []string{"", known[:api.KeySize-1], known + "x"} {
		if h, e := Pair(key, p); h != 0 || e != api.ErrArg {
			t.Errorf("Pair of a key of %d: %d, %v", len(key), h, e)
		}
	}
	if h, e := Pair(known, api.Pair{}); h != 0 || e != api.OK {
		t.Errorf("Pair of zeros: %d, %v", h, e)
	}
}

// P5.2: the table of each number of queues, and of what is none.
func TestEven(t *testing.T) {
	for _, queues := range []int{-1 << 63, -api.MaxQueues, -1, 0, api.MaxQueues + 1, api.Entries, 1<<63 - 1} {
		if got := Even(queues); len(got) != 0 {
			t.Errorf("Even(%d): %v, want none", queues, got)
		}
	}
	for queues := 1; queues <= api.MaxQueues; queues++ {
		got := Even(queues)
		if len(got) != api.Entries {
			t.Fatalf("Even(%d): %d entries", queues, len(got))
		}
		turn := 0
		for i, q := range got {
			if q != turn {
				t.Errorf("Even(%d): entry %d: %d, want %d", queues, i, q, turn)
			}
			if turn++; turn == queues {
				turn = 0
			}
		}
	}
}

// R5: who changes a table changes nobody else's.
func TestEvenIsNew(t *testing.T) {
	table := Even(3)
	clear(table)
	if got := Even(3); got[1] != 1 || got[127] != 1 {
		t.Errorf("Even(3) behind a change of another answer: %v", got)
	}
}

// own is a table no two entries of which are alike.
func own(n int) []int {
	table := make([]int, n)
	for i := range table {
		table[i] = 1000 + i
	}
	return table
}

// P5.2: the entry of the hash modulo Entries.
func TestPick(t *testing.T) {
	table := own(api.Entries)
	for _, c := range []struct {
		hash uint32
		want int
	}{
		{0, 1000},
		{1, 1001},
		{api.Entries - 1, 1127},
		{api.Entries, 1000},
		{api.Entries + 1, 1001},
		{2*api.Entries - 1, 1127},
		{1 << 31, 1000},
		{1<<31 - 1, 1127},
		{1<<31 + 77, 1077},
		{last, 1127},
		{last - 127, 1000},
	} {
		if got, is := Pick(table, c.hash); got != c.want || !is {
			t.Errorf("Pick(%d): %d, %v, want %d", c.hash, got, is, c.want)
		}
	}
	if !slices.Equal(table, own(api.Entries)) {
		t.Error("Pick changed the table")
	}
}

// P5.2: whatever stands in a table is answered, of a table of Even's as well.
func TestPickTakesEntriesAsTheyAre(t *testing.T) {
	table := make([]int, api.Entries)
	table[3], table[4] = -7, 1<<62
	for hash, want := range []int{0, 0, 0, -7, 1 << 62, 0} {
		if got, is := Pick(table, uint32(hash)); got != want || !is {
			t.Errorf("Pick(%d): %d, %v, want %d", hash, got, is, want)
		}
	}
	if got, is := Pick(Even(8), last); got != 7 || !is {
		t.Errorf("Pick(Even(8), 2^32 - 1): %d, %v", got, is)
	}
}

// P5.2: tables that have not Entries entries.
func TestPickRefuses(t *testing.T) {
	for _, table := range [][]int{nil, {}, own(1), own(api.Entries - 1), own(api.Entries + 1), own(2 * api.Entries), Even(0), Even(9)} {
		for _, hash := range []uint32{0, api.Entries - 1, api.Entries, last} {
			if got, is := Pick(table, hash); got != 0 || is {
				t.Errorf("Pick of %d entries, %d: %d, %v", len(table), hash, got, is)
			}
		}
	}
}

// P5.2: of no core none, of one that one.
func TestCoreOfFew(t *testing.T) {
	for _, hash := range []uint32{0, 1, 1 << 31, last} {
		for _, none := range [][]int{nil, {}} {
			if got, is := Core(hash, none); got != 0 || is {
				t.Errorf("Core(%d, none): %d, %v", hash, got, is)
			}
		}
		for _, one := range []int{0, 6, -1} {
			if got, is := Core(hash, []int{one}); got != one || !is {
				t.Errorf("Core(%d, %d): %d, %v", hash, one, got, is)
			}
		}
	}
}

// P5.2: of several the one whose share has the hash; shares are tried at their ends.
func TestCoreOfSeveral(t *testing.T) {
	for _, n := range []int{2, 3, 4, 5, 7, 8, 9, 1000, 65537} {
		cores := own(n)
		for at := range n {
			// The least hash whose share is at, rounded up.
			from := (uint64(at)<<32 + uint64(n) - 1) / uint64(n)
			to := (uint64(at+1)<<32+uint64(n)-1)/uint64(n) - 1
			for _, hash := range []uint64{from, to, (from + to) / 2} {
				if got, is := Core(uint32(hash), cores); got != 1000+at || !is {
					t.Fatalf("Core(%d) of %d cores: %d, %v, want %d", hash, n, got, is, 1000+at)
				}
			}
		}
		if got, _ := Core(0, cores); got != 1000 {
			t.Errorf("Core(0) of %d cores: %d", n, got)
		}
		if got, _ := Core(last, cores); got != 1000+n-1 {
			t.Errorf("Core(2^32 - 1) of %d cores: %d", n, got)
		}
		if !slices.Equal(cores, own(n)) {
			t.Error("Core changed the cores")
		}
	}
}

// P5.2: cores are answered as they stand, whether they rise or not.
func TestCoreByPlace(t *testing.T) {
	cores := []int{5, 2, 5, -3}
	for i, want := range cores {
		if got, is := Core(uint32(i)<<30, cores); got != want || !is {
			t.Errorf("Core(%d * 2^30): %d, %v, want %d", i, got, is, want)
		}
	}
}

// differ is what two texts of one length differ in.
func differ(a, b string) string {
	out := make([]byte, len(a))
	for i := range out {
		out[i] = a[i] ^ b[i]
	}
	return string(out)
}

// P5.3: what texts differ in has the hash that their hashes differ in.
func TestHashOfDifference(t *testing.T) {
	d := drawer(53)
	for range 40 {
		key := d.text(api.KeySize)
		for n := range api.MaxHash + 1 {
			a, b := d.text(n), d.text(n)
			got, want := hash(t, key, differ(a, b)), hash(t, key, a)^hash(t, key, b)
			if got != want {
				t.Fatalf("key %q, %q and %q: %#x, want %#x", key, a, b, got, want)
			}
		}
	}
}

// P5.3: by a key of two bytes again and again a pair and the same turned about have one hash.
func TestPairTurnedAbout(t *testing.T) {
	d := drawer(535)
	twos := []string{"\x6d\x5a", "\x00\x00", "\xff\xff", "\x00\x01", "\x80\x00", "aa"}
	for range 60 {
		twos = append(twos, d.text(2))
	}
	for _, two := range twos {
		key := strings.Repeat(two, api.KeySize/2)
		for range 60 {
			p := d.pair()
			there, e := Pair(key, p)
			back, f := Pair(key, api.Pair{From: p.To, To: p.From})
			if there != back || e != api.OK || f != api.OK {
				t.Fatalf("by %q, %v: %#x, %v, turned about %#x, %v", two, p, there, e, back, f)
			}
		}
	}
	// Any other key tells them apart, or the check above would hold of a hash that is always 0.
	p := pair(ip(66, 9, 149, 187), 2794, ip(161, 142, 100, 80), 1766)
	there, _ := Pair(known, p)
	back, _ := Pair(known, api.Pair{From: p.To, To: p.From})
	if there == back {
		t.Errorf("by the known key, %v: %#x both ways", p, there)
	}
}
