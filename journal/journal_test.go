package journal

import (
	"fmt"
	"math"
	"slices"
	"strings"
	"testing"

	"lunette/api"
	"lunette/dev"
)

// full gives a sector's contents of one letter.
func full(c string) string { return strings.Repeat(c, api.SectorSize) }

// numbered gives a sector's contents that tell n.
func numbered(n int) string { return fmt.Sprintf("%064d", n) }

// newDev gives a device of n sectors, each with contents of its own, but bytes 0 in the area.
func newDev(t *testing.T, n, from, area int) *dev.Dev {
	t.Helper()
	d, e := dev.New(n)
	if e != api.OK {
		t.Fatalf("dev.New(%d): %v", n, e)
	}
	for i := range n {
		if i < from || i >= from+area {
			d.Write(i, numbered(i))
		}
	}
	d.Flush()
	return d
}

// open opens the journal of an area.
func open(t *testing.T, d *dev.Dev, from, n int) *Journal {
	t.Helper()
	j, e := Open(d, from, n)
	if j == nil || e != api.OK {
		t.Fatalf("Open(%d, %d): %v", from, n, e)
	}
	return j
}

// commit commits l, as the transaction of that number.
func commit(t *testing.T, j *Journal, gen uint64, l ...api.Put) {
	t.Helper()
	if n, e := j.Commit(l...); n != gen || e != api.OK || j.Gen() != gen {
		t.Errorf("Commit of %d sectors: %d %v, Gen: %d, want %d", len(l), n, e, j.Gen(), gen)
	}
}

// outside gives what all sectors outside an area contain.
func outside(t *testing.T, d *dev.Dev, from, n int) map[int]string {
	t.Helper()
	m := map[int]string{}
	for i := range d.Len() {
		if i < from || i >= from+n {
			s, e := d.Read(i)
			if e != api.OK {
				t.Fatalf("Read(%d): %v", i, e)
			}
			m[i] = s
		}
	}
	return m
}

// with gives m with the sectors of l written over it, in order.
func with(m map[int]string, l []api.Put) map[int]string {
	after := map[int]string{}
	for i, s := range m {
		after[i] = s
	}
	for _, p := range l {
		after[p.Sector] = p.Data
	}
	return after
}

// differs gives the sectors that two devices' contents differ in.
func differs(a, b map[int]string) []int {
	var l []int
	for i, s := range a {
		if b[i] != s {
			l = append(l, i)
		}
	}
	slices.Sort(l)
	return l
}

// is holds the sectors outside the area against what they ought to contain, durably.
func is(t *testing.T, d *dev.Dev, from, n int, want map[int]string) {
	t.Helper()
	if l := differs(want, outside(t, d, from, n)); l != nil {
		t.Errorf("sectors %v have other contents", l)
	}
	if len(d.Loose()) != 0 {
		t.Errorf("sectors %v are not durable", d.Loose())
	}
}

// some gives m sectors outside an area, each with contents of that letter: the device's first and last one, those at the area's edges, and whichever follow.
func some(d *dev.Dev, from, n, m int, letter string) []api.Put {
	order := []int{d.Len() - 1, 0, from + n, from - 1}
	for k := range d.Len() {
		order = append(order, (k*7+3)%d.Len())
	}
	var l []api.Put
	for _, i := range order {
		there := slices.ContainsFunc(l, func(p api.Put) bool { return p.Sector == i })
		if len(l) < m && !there && i >= 0 && i < d.Len() && (i < from || i >= from+n) {
			l = append(l, api.Put{Sector: i, Data: full(letter)})
		}
	}
	return l
}

// up gives n / size, rounded up.
func up(n, size int) int {
	k := 0
	for k*size < n {
		k++
	}
	return k
}

// capacity gives that of an area of n sectors, by its definition.
func capacity(n int) int {
	best := 0
	for m := range n {
		if m+up(m, 32)+1 <= n {
			best = m
		}
	}
	return best
}

// P4.1: the capacity is the greatest that fits, for all areas that there are.
func TestMax(t *testing.T) {
	d := newDev(t, 300, 10, 256)
	for n := 4; n <= 256; n++ {
		if j := open(t, d, 10, n); j.Max() != capacity(n) {
			t.Errorf("area of %d: %d, want %d", n, j.Max(), capacity(n))
		}
	}
	for n, want := range map[int]int{4: 2, 5: 3, 8: 6, 10: 8, 33: 31, 34: 32, 35: 32, 36: 33, 255: 246, 256: 247} {
		if j := open(t, d, 10, n); j.Max() != want {
			t.Errorf("area of %d: %d, want %d", n, j.Max(), want)
		}
	}
}

// P4.1: areas of all sizes, wherever they lie on a device: nothing was committed there, and nothing is written.
func TestOpen(t *testing.T) {
	for _, x := range []struct{ sectors, from, n int }{{60, 4, 8}, {60, 0, 4}, {60, 56, 4}, {60, 52, 8}, {8, 0, 8}, {8, 4, 4}, {256, 0, 256}, {300, 44, 256}, {300, 1, 255}, {4096, 3840, 256}, {4096, 4092, 4}} {
		d := newDev(t, x.sectors, x.from, x.n)
		before, writes := outside(t, d, x.from, x.n), d.Writes()
		j := open(t, d, x.from, x.n)
		if j.Gen() != 0 || j.Recovered() != 0 || j.Max() != capacity(x.n) || d.Writes() != writes {
			t.Errorf("%v: Gen %d, Recovered %d, Max %d, %d writes", x, j.Gen(), j.Recovered(), j.Max(), d.Writes()-writes)
		}
		is(t, d, x.from, x.n, before)
		commit(t, j, 1)
		is(t, d, x.from, x.n, before)
	}
}

// P4.1: areas that may not be are refused, ahead of asking whether the device works; there is no journal then.
func TestOpenWrong(t *testing.T) {
	d := newDev(t, 300, 0, 256)
	refused := func(d *dev.Dev, from, n int, want api.Errno) {
		t.Helper()
		if j, e := Open(d, from, n); j != nil || e != want {
			t.Errorf("Open(%d, %d): %v %v, want %v", from, n, j, e, want)
		}
	}
	wrong := [][2]int{{0, 3}, {0, 257}, {0, 0}, {0, -1}, {0, -4}, {-1, 8}, {-4, 4}, {-1, 256}, {45, 256}, {293, 8}, {297, 4}, {300, 4}, {301, 4}, {math.MaxInt, 4}, {math.MinInt, 4}, {math.MaxInt, 256}, {math.MaxInt - 3, 4}, {0, math.MaxInt}, {0, math.MinInt}, {math.MinInt, math.MinInt}, {math.MaxInt, math.MaxInt}}
	for _, down := range []bool{false, true} {
		for _, x := range wrong {
			refused(d, x[0], x[1], api.ErrArg)
			refused(nil, x[0], x[1], api.ErrNil)
		}
		refused(nil, 4, 8, api.ErrNil)
		if down {
			for _, x := range [][2]int{{0, 4}, {0, 256}, {44, 256}, {292, 8}, {296, 4}} {
				refused(d, x[0], x[1], api.ErrDown)
			}
		}
		d.Fuse(0)
	}
	if d.Writes() != 44 {
		t.Errorf("%d writes", d.Writes()-44)
	}
	d.Crash("")
	open(t, d, 0, 256)
	// A device of fewer sectors than the area has.
	refused(newDev(t, 8, 0, 8), 0, 9, api.ErrArg)
	refused(newDev(t, 255, 0, 8), 0, 256, api.ErrArg)
}

// P4.2: what is committed is there, durably, and nothing else has changed; of all sizes up to the capacity, wherever the area lies.
func TestCommit(t *testing.T) {
	for _, x := range []struct{ sectors, from, n int }{{60, 4, 4}, {60, 0, 8}, {60, 52, 8}, {60, 1, 10}, {60, 3, 36}, {600, 300, 256}, {4096, 3840, 256}, {4096, 0, 256}, {503, 247, 256}, {503, 0, 256}} {
		d := newDev(t, x.sectors, x.from, x.n)
		j := open(t, d, x.from, x.n)
		gen := uint64(0)
		for _, m := range []int{0, 1, 2, 3, 6, 31, 32, 33, 64, 65, capacity(x.n) - 1, capacity(x.n), 1, 0} {
			l := some(d, x.from, x.n, m, string(rune('a'+gen)))
			if m > capacity(x.n) || len(l) != m {
				continue
			}
			gen++
			want := with(outside(t, d, x.from, x.n), l)
			commit(t, j, gen, l...)
			is(t, d, x.from, x.n, want)
			d.Crash(strings.Repeat("\x01", x.sectors))
			is(t, d, x.from, x.n, want)
			k := open(t, d, x.from, x.n)
			if k.Gen() != gen || k.Recovered() != 0 || k.Max() != j.Max() {
				t.Errorf("%v: opened again: Gen %d, want %d, Recovered %d, Max %d", x, k.Gen(), gen, k.Recovered(), k.Max())
			}
			is(t, d, x.from, x.n, want)
		}
		if gen < 4 {
			t.Errorf("%v: %d commits", x, gen)
		}
	}
}

// P4.2: all bytes of a sector are kept, whatever they are, in the order in which they come; so are those of sectors with the greatest numbers.
func TestCommitBytes(t *testing.T) {
	d := newDev(t, 4096, 2000, 8)
	j := open(t, d, 2000, 8)
	var l []api.Put
	for k, i := range []int{255, 4095, 256, 0, 2008, 1999} {
		b := make([]byte, 64)
		for at := range b {
			b[at] = byte(64*k + at)
		}
		l = append(l, api.Put{Sector: i, Data: string(b)})
	}
	want := with(outside(t, d, 2000, 8), l)
	d.Fuse(8) // the transaction is committed, and no more
	if n, e := j.Commit(l...); n != 0 || e != api.ErrDown {
		t.Errorf("Commit: %d %v", n, e)
	}
	d.Crash("\x01")
	if j := open(t, d, 2000, 8); j.Recovered() != 6 || j.Gen() != 1 {
		t.Errorf("Recovered %d, Gen %d", j.Recovered(), j.Gen())
	}
	is(t, d, 2000, 8, want)
}

// P4.2: of a sector that occurs more than once the last contents count, and it is one sector.
func TestCommitTwice(t *testing.T) {
	for _, letters := range []string{"aa", "ab", "aba", "abab", "abcdef"} {
		for from := 1; from < 4; from++ {
			d := newDev(t, 60, from, 8)
			j := open(t, d, from, 8)
			var l []api.Put
			for k, c := range strings.Split(letters, "") {
				l = append(l, api.Put{Sector: []int{20, 0, 59}[k%from], Data: full(c)})
			}
			want := with(outside(t, d, from, 8), l)
			distinct := len(differs(want, outside(t, d, from, 8)))
			writes := d.Writes()
			c := d.Copy()
			commit(t, j, 1, l...)
			is(t, d, from, 8, want)
			if n := int(d.Writes() - writes); n > 2*distinct+1+2 {
				t.Errorf("%s: %d writes of %d sectors", letters, n, distinct)
			}
			// Behind the crash there are those that keep wrote, and the head.
			c.Fuse(distinct + 2)
			open(t, c, from, 8).Commit(l...)
			c.Crash("\x01")
			if k := open(t, c, from, 8); k.Recovered() != distinct || k.Gen() != 1 {
				t.Errorf("%s: Recovered %d, want %d, Gen %d", letters, k.Recovered(), distinct, k.Gen())
			}
			is(t, c, from, 8, want)
		}
	}
}

// P4.2: an empty transaction is one, too.
func TestCommitNothing(t *testing.T) {
	d := newDev(t, 8, 0, 8) // no sector is outside the area
	for k := range uint64(300) {
		j := open(t, d, 0, 8)
		if k%2 == 0 {
			commit(t, j, k+1)
		} else {
			commit(t, j, k+1, []api.Put{}...)
		}
		if j.Recovered() != 0 || len(d.Loose()) != 0 {
			t.Errorf("Recovered %d, %v is not durable", j.Recovered(), d.Loose())
		}
	}
}

// refused holds a commit that is refused against its error; nothing of the device changes by it.
func refused(t *testing.T, j *Journal, want api.Errno, l ...api.Put) {
	t.Helper()
	writes, gen, loose := j.Writes(), j.Gen(), j.Loose()
	if n, e := j.Commit(l...); n != 0 || e != want {
		t.Errorf("Commit of %d sectors: %d %v, want %v", len(l), n, e, want)
	}
	if j.Writes() != writes || j.Gen() != gen || !slices.Equal(j.Loose(), loose) {
		t.Errorf("a refused commit: %d writes, Gen %d, want %d, loose %v", j.Writes()-writes, j.Gen(), gen, j.Loose())
	}
}

// P4.2: wrong sectors and wrong contents are refused, wherever they stand; then sectors of the area; then too many; only then a device that has failed counts.
func TestCommitWrong(t *testing.T) {
	good := api.Put{Sector: 20, Data: full("x")}
	j := open(t, newDev(t, 60, 4, 8), 4, 8)
	commit(t, j, 1, good)
	before := outside(t, j.Dev, 4, 8)
	for _, down := range []bool{false, true} {
		if down {
			j.Fuse(0)
		}
		for _, i := range []int{60, 61, -1, -60, math.MaxInt, math.MinInt, 60 + 1<<16, 1<<32 + 20} {
			bad := api.Put{Sector: i, Data: full("x")}
			refused(t, j, api.ErrArg, bad)
			refused(t, j, api.ErrArg, good, bad)
			refused(t, j, api.ErrArg, bad, good, good)
		}
		for _, s := range []string{"", "x", full("x")[1:], full("x") + "x", full("x") + full("x")} {
			for _, i := range []int{20, 0, 59, 4, 60} {
				refused(t, j, api.ErrArg, api.Put{Sector: i, Data: s})
				refused(t, j, api.ErrArg, api.Put{Sector: i, Data: s}, api.Put{Sector: i, Data: full("x")})
			}
		}
		for i := 4; i < 12; i++ {
			own := api.Put{Sector: i, Data: full("x")}
			refused(t, j, api.ErrArea, own)
			refused(t, j, api.ErrArea, good, own)
			refused(t, j, api.ErrArea, own, good, own)
			refused(t, j, api.ErrArg, own, api.Put{Sector: 60, Data: full("x")})
			refused(t, j, api.ErrArg, own, api.Put{Sector: 20})
			refused(t, j, api.ErrArea, append(some(j.Dev, 4, 8, 6, "x"), own)...)
			refused(t, j, api.ErrArg, append(some(j.Dev, 4, 8, 7, "x"), own, api.Put{Sector: -1, Data: full("x")})...)
		}
		refused(t, j, api.ErrFull, some(j.Dev, 4, 8, 7, "x")...)
		refused(t, j, api.ErrFull, some(j.Dev, 4, 8, 50, "x")...)
		refused(t, j, api.ErrArg, make([]api.Put, 1000)...)
		if down {
			refused(t, j, api.ErrDown)
			refused(t, j, api.ErrDown, good)
			refused(t, j, api.ErrDown, some(j.Dev, 4, 8, 6, "x")...)
			j.Crash("")
		}
		is(t, j.Dev, 4, 8, before)
	}
	j = open(t, j.Dev, 4, 8)
	for _, i := range []int{0, 3, 12, 59} { // right beside what is refused
		commit(t, j, j.Gen()+1, api.Put{Sector: i, Data: full("y")})
	}
}

// P4.2: the capacity is what fits, one more doesn't, be it a sector that is there already.
func TestCommitFull(t *testing.T) {
	for _, n := range []int{4, 5, 8, 33, 34, 35, 36, 67, 68, 69, 255, 256} {
		for _, from := range []int{0, 13, 600 - n} {
			j := open(t, newDev(t, 600, from, n), from, n)
			l := some(j.Dev, from, n, capacity(n)+1, "x")
			refused(t, j, api.ErrFull, l...)
			refused(t, j, api.ErrFull, append(l[1:len(l):len(l)], l[1])...)
			want := with(outside(t, j.Dev, from, n), l[1:])
			commit(t, j, 1, l[1:]...)
			is(t, j.Dev, from, n, want)
		}
	}
}

// P4.1, P4.2: the area tells how many transactions were committed in it, whichever journal did it; bytes 0 tell none.
func TestGen(t *testing.T) {
	d := newDev(t, 60, 4, 8)
	j, k := open(t, d, 4, 8), open(t, d, 4, 8)
	commit(t, j, 1, some(d, 4, 8, 3, "a")...)
	commit(t, k, 2, some(d, 4, 8, 6, "b")...)
	commit(t, j, 3)
	if j.Gen() != 3 || k.Gen() != 3 || open(t, d, 4, 8).Gen() != 3 {
		t.Errorf("Gen %d and %d", j.Gen(), k.Gen())
	}
	// Another area has a number of its own.
	commit(t, open(t, d, 20, 8), 1, api.Put{Sector: 1, Data: full("c")})
	if j.Gen() != 3 {
		t.Errorf("Gen %d", j.Gen())
	}
	d.Fuse(0)
	if j.Gen() != 3 {
		t.Errorf("of a device that has failed: Gen %d", j.Gen())
	}
	d.Crash("")
	for i := range 8 {
		d.Write(4+i, full("\x00"))
	}
	if n := open(t, d, 4, 8).Gen(); n != 0 {
		t.Errorf("of bytes 0: Gen %d", n)
	}
}

// P4.3: how many sectors of the device a commit writes, and an Open with nothing to recover.
func TestCost(t *testing.T) {
	for _, n := range []int{4, 8, 35, 36, 100, 256} {
		d := newDev(t, 600, 11, n)
		j := open(t, d, 11, n)
		for m := range capacity(n) + 1 {
			writes := d.Writes()
			commit(t, j, uint64(m+1), some(d, 11, n, m, "x")...)
			if got := int(d.Writes() - writes); got > 2*m+up(m, 32)+2 {
				t.Errorf("area of %d: %d writes of %d sectors", n, got, m)
			}
			writes = d.Writes()
			open(t, d, 11, n)
			if d.Writes() > writes+1 {
				t.Errorf("area of %d: %d writes by Open", n, d.Writes()-writes)
			}
		}
	}
}

// keeps gives what a crash may keep of n sectors in the cache: all choices, if they are few; otherwise none, all, every second one, the second half, and some alone or left out.
func keeps(n int) []string {
	keep := func(kept func(k int) bool) string {
		b := make([]byte, n)
		for k := range b {
			if kept(k) {
				b[k] = 1
			}
		}
		return string(b)
	}
	var l []string
	if n <= 7 {
		for c := range 1 << n {
			l = append(l, keep(func(k int) bool { return c>>k&1 == 1 }))
		}
		return l
	}
	for _, f := range []func(k int) bool{func(k int) bool { return false }, func(k int) bool { return true }, func(k int) bool { return k%2 == 0 }, func(k int) bool { return k >= n/2 }} {
		l = append(l, keep(f))
	}
	for _, i := range []int{0, n / 2, n - 1} {
		l = append(l, keep(func(k int) bool { return k == i }), keep(func(k int) bool { return k != i }))
	}
	return l
}

// A crashed commit is one of the transaction l, behind another one, on a device that failed in it.
type crashed struct {
	from, n       int
	l             []api.Put
	before, after map[int]string
}

// recovered opens a journal on d, which crashed, and tells whether the transaction is there; else it isn't at all.
func (c crashed) recovered(t *testing.T, d *dev.Dev) bool {
	t.Helper()
	writes := d.Writes()
	j := open(t, d, c.from, c.n)
	gen := j.Gen()
	switch {
	case gen == 1:
		is(t, d, c.from, c.n, c.before)
	case gen == 2:
		is(t, d, c.from, c.n, c.after)
	default:
		t.Errorf("Gen %d", gen)
	}
	if int(d.Writes()-writes) > j.Recovered()+1 || j.Recovered() != 0 && (gen != 2 || j.Recovered() != len(c.l)) {
		t.Errorf("Recovered %d by %d writes, Gen %d", j.Recovered(), d.Writes()-writes, gen)
	}
	if k := open(t, d, c.from, c.n); k.Recovered() != 0 || k.Gen() != gen {
		t.Errorf("opened again: Recovered %d, Gen %d, want %d", k.Recovered(), k.Gen(), gen)
	}
	return gen == 2
}

// newCrash gives a device, and what is committed on it when it fails.
func newCrash(t *testing.T, sectors, from, n, m int) (*dev.Dev, crashed) {
	t.Helper()
	d := newDev(t, sectors, from, n)
	j := open(t, d, from, n)
	commit(t, j, 1, some(d, from, n, j.Max(), "p")...)
	l := some(d, from, n, m, "q")
	before := outside(t, d, from, n)
	return d, crashed{from, n, l, before, with(before, l)}
}

// P4.4: wherever in a commit the device fails, and whatever a crash keeps: all of it, or nothing, as Gen tells; what was answered OK is there.
func TestCrash(t *testing.T) {
	for _, x := range []struct{ sectors, from, n, m int }{{20, 3, 4, 0}, {20, 3, 4, 1}, {20, 0, 4, 2}, {20, 12, 8, 3}, {20, 4, 8, 6}, {30, 0, 8, 5}, {80, 4, 34, 32}, {80, 4, 40, 33}, {503, 247, 256, 247}, {300, 0, 256, 40}} {
		d, c := newCrash(t, x.sectors, x.from, x.n, x.m)
		old, fresh := 0, 0
		last := 2*x.m + up(x.m, 32) + 2
		for fuse := range last + 2 {
			f := d.Copy()
			j := open(t, f, x.from, x.n)
			f.Fuse(fuse)
			gen, e := j.Commit(c.l...)
			switch {
			case fuse > last && (gen != 2 || e != api.OK):
				t.Errorf("%v, fuse %d: %d %v", x, fuse, gen, e)
			case fuse <= last && (gen != 0 || e != api.ErrDown || !f.Down()):
				t.Errorf("%v, fuse %d: %d %v", x, fuse, gen, e)
			}
			for _, keep := range keeps(len(f.Loose())) {
				g := f.Copy()
				g.Crash(keep)
				if c.recovered(t, g) {
					fresh++
				} else {
					old++
					if fuse > last {
						t.Errorf("%v: not there, and answered OK", x)
					}
				}
				if t.Failed() {
					t.Fatalf("%v, fuse %d, keep %q", x, fuse, keep)
				}
			}
		}
		if old == 0 || fresh < 2 {
			t.Errorf("%v: %d times as before, %d times as behind", x, old, fresh)
		}
	}
}

// P4.1, P4.4: wherever in an Open the device fails, and whatever a crash keeps, as often as it does: the next one that ends has all of it.
func TestCrashInOpen(t *testing.T) {
	for _, x := range []struct{ sectors, from, n, m int }{{20, 3, 4, 0}, {20, 0, 4, 2}, {20, 12, 8, 4}, {80, 4, 34, 32}, {80, 4, 40, 33}, {503, 0, 256, 247}} {
		d, c := newCrash(t, x.sectors, x.from, x.n, x.m)
		j := open(t, d, x.from, x.n)
		d.Fuse(x.m + up(x.m, 32) + 1)
		j.Commit(c.l...)
		d.Crash("\x01") // of the head alone
		for first := range x.m + 1 {
			f := d.Copy()
			f.Fuse(first + 1)
			if j, e := Open(f, x.from, x.n); j != nil || e != api.ErrDown {
				t.Fatalf("%v: Open with a fuse of %d: %v %v", x, first+1, j, e)
			}
			for _, keep := range keeps(len(f.Loose())) {
				g := f.Copy()
				g.Crash(keep)
				for _, second := range []int{1, x.m/2 + 1, x.m + 1} {
					h := g.Copy()
					h.Fuse(second)
					if _, e := Open(h, x.from, x.n); e == api.ErrDown {
						h.Crash(keep)
					}
					h.Fuse(1 << 20)
					if !c.recovered(t, h) {
						t.Fatalf("%v, fuses %d and %d, keep %q", x, first+1, second, keep)
					}
				}
				if !c.recovered(t, g) || t.Failed() {
					t.Fatalf("%v, fuse %d, keep %q", x, first+1, keep)
				}
			}
		}
	}
}

// P4.1: an Open whose last write is the device's last one fails, too: it isn't known to be durable. With one write more it doesn't.
func TestOpenFails(t *testing.T) {
	d, c := newCrash(t, 20, 4, 8, 3)
	j := open(t, d, 4, 8)
	d.Fuse(5)
	j.Commit(c.l...)
	d.Crash("\x01")
	for fuse := range 7 {
		f := d.Copy()
		f.Fuse(fuse)
		j, e := Open(f, 4, 8)
		if fuse <= 4 && (j != nil || e != api.ErrDown) || fuse > 4 && (e != api.OK || j.Recovered() != 3 || j.Gen() != 2) {
			t.Errorf("Open with a fuse of %d: %v %v", fuse, j, e)
		}
	}
}

// P4.4: a journal is used again behind what it recovered, and behind what was lost.
func TestCommitAfterCrash(t *testing.T) {
	d, c := newCrash(t, 20, 4, 8, 6)
	for fuse := 1; fuse < 16; fuse++ {
		for _, keep := range []string{"", strings.Repeat("\x01", 20)} {
			f := d.Copy()
			j := open(t, f, 4, 8)
			f.Fuse(fuse)
			j.Commit(c.l...)
			f.Crash(keep)
			j = open(t, f, 4, 8)
			gen, now := j.Gen(), outside(t, f, 4, 8)
			l := some(f, 4, 8, fuse%7, "r")
			commit(t, j, gen+1, l...)
			f.Crash("")
			if k := open(t, f, 4, 8); k.Gen() != gen+1 || k.Recovered() != 0 {
				t.Errorf("fuse %d, keep %q: Gen %d, Recovered %d", fuse, keep, k.Gen(), k.Recovered())
			}
			is(t, f, 4, 8, with(now, l))
		}
	}
}

// P4.4: what was committed is there after Open, whatever the journal whose device failed, or another one that was open, is asked to do meanwhile.
func TestCommitWithoutOpen(t *testing.T) {
	d, c := newCrash(t, 20, 4, 8, 6)
	j, other := open(t, d, 4, 8), open(t, d, 4, 8)
	d.Fuse(10) // the transaction is committed, and some of it is in the cache of its destinations
	j.Commit(c.l...)
	d.Crash("\x01\x01")
	for _, k := range []*Journal{j, other} {
		refused(t, k, api.ErrDown, some(d, 4, 8, 3, "r")...)
		refused(t, k, api.ErrDown)
	}
	if !c.recovered(t, d) {
		t.Error("not there")
	}
	commit(t, other, 3, some(d, 4, 8, 3, "r")...)
}

// P4.1: what was in the cache of a device when a journal recovers is durable behind it, as are the sectors that it recovers.
func TestOpenWithCache(t *testing.T) {
	d, c := newCrash(t, 20, 4, 8, 3)
	j := open(t, d, 4, 8)
	d.Fuse(5)
	j.Commit(c.l...)
	d.Crash("\x01")
	for _, p := range c.l {
		d.Write(p.Sector, full("w"))
		d.Write(p.Sector, full("v"))
	}
	if !c.recovered(t, d) {
		t.Error("not there")
	}
	d.Crash("")
	is(t, d, 4, 8, c.after)
}

// The device itself is the journal's: what one writes the other one has.
func TestSameDevice(t *testing.T) {
	d := newDev(t, 60, 4, 8)
	j := open(t, d, 4, 8)
	if j.Dev != d {
		t.Error("another device")
	}
	d.Write(30, full("a"))
	d.Write(31, full("b"))
	commit(t, j, 1, api.Put{Sector: 30, Data: full("c")})
	if s, e := j.Read(31); s != full("b") || e != api.OK {
		t.Errorf("%q %v", s, e)
	}
	if s, e := d.Durable(30); s != full("c") || e != api.OK {
		t.Errorf("%q %v", s, e)
	}
}

// R5: a row that is committed is its caller's: it is as it was, and may be changed.
func TestArgument(t *testing.T) {
	d := newDev(t, 60, 4, 8)
	j := open(t, d, 4, 8)
	l := []api.Put{{Sector: 20, Data: full("a")}, {Sector: 21, Data: full("b")}, {Sector: 20, Data: full("c")}}
	was := slices.Clone(l)
	commit(t, j, 1, l...)
	if !slices.Equal(l, was) {
		t.Errorf("%v", l)
	}
	l[0], l[1] = api.Put{Sector: 30, Data: full("x")}, api.Put{}
	commit(t, j, 2)
	for i, c := range map[int]string{20: "c", 21: "b"} {
		if s, _ := d.Read(i); s != full(c) {
			t.Errorf("sector %d: %q", i, s)
		}
	}
}

// R3: of no journal there is nothing, and nothing is committed.
func TestNil(t *testing.T) {
	var j *Journal
	if j.Max() != 0 || j.Gen() != 0 || j.Recovered() != 0 {
		t.Errorf("%d %d %d", j.Max(), j.Gen(), j.Recovered())
	}
	for _, l := range [][]api.Put{nil, {{Sector: 20, Data: full("a")}}, {{Sector: -1}}, make([]api.Put, 300)} {
		if n, e := j.Commit(l...); n != 0 || e != api.ErrNil {
			t.Errorf("%d %v", n, e)
		}
	}
}

// R1: whatever an area contains, a journal is opened there, and commits; nothing outside changes before.
func TestForeign(t *testing.T) {
	sectors := []string{full("x"), full("\xff"), full("\x00"), numbered(3), head{}.sector(), head{gen: 7}.sector(), head{gen: 7, pending: true, count: 1}.sector()}
	for n := range 7 {
		sectors = append(sectors, head{pending: true, count: n}.sector())
	}
	for _, n := range []int{7, 32, 100, 65535} {
		sectors = append(sectors, head{gen: 9, pending: true, count: n}.sector())
	}
	for _, first := range sectors {
		for _, rest := range []string{full("\xff"), full("\x00\x04")[:64], full("\x04\x00")[:64], full("\x3c\x00")[:64], head{gen: 9}.sector()} {
			d := newDev(t, 60, 4, 8)
			before := outside(t, d, 4, 8)
			for i := range 8 {
				d.Write(4+i, rest)
			}
			d.Write(4, first)
			writes := d.Writes()
			j := open(t, d, 4, 8)
			if j.Recovered() != 0 || d.Writes() > writes+1 {
				t.Errorf("%q, %q: Recovered %d by %d writes", first, rest, j.Recovered(), d.Writes()-writes)
			}
			d.Flush()
			is(t, d, 4, 8, before)
			l := some(d, 4, 8, 6, "a")
			commit(t, j, j.Gen()+1, l...)
			is(t, d, 4, 8, with(before, l))
		}
	}
}

// P4.1 to P4.4: whole runs: whatever is committed, and wherever the device fails and crashes, it has what was committed, whole.
func TestRuns(t *testing.T) {
	for seed := range 60 {
		x := uint32(seed)
		next := func(n int) int {
			x = x*1664525 + 1013904223
			return int(x>>16) % n
		}
		n := []int{4, 5, 8, 40}[seed%4]
		d := newDev(t, 100, 10, n)
		now, gen := outside(t, d, 10, n), uint64(0)
		j := open(t, d, 10, n)
		for at := range 60 {
			var l []api.Put
			for range next(j.Max() + 1) {
				l = append(l, api.Put{Sector: (10 + n + next(100-n)) % 100, Data: numbered(1000*at + next(1000))})
			}
			if next(2) == 0 {
				d.Fuse(1 + next(2*len(l)+5))
			}
			got, e := j.Commit(l...)
			if e == api.OK {
				gen, now = gen+1, with(now, l)
				if got != gen {
					t.Errorf("seed %d, step %d: Commit: %d, want %d", seed, at, got, gen)
				}
			}
			for e == api.ErrDown {
				b := make([]byte, next(60))
				for k := range b {
					b[k] = byte(next(256))
				}
				d.Crash(string(b))
				d.Fuse(1 + next(80))
				j, e = Open(d, 10, n)
				if e == api.OK && j.Gen() == gen+1 {
					gen, now = gen+1, with(now, l)
				}
			}
			if e != api.OK || j.Gen() != gen || differs(now, outside(t, d, 10, n)) != nil {
				t.Fatalf("seed %d, step %d: %v, Gen %d, want %d, other contents: %v", seed, at, e, j.Gen(), gen, differs(now, outside(t, d, 10, n)))
			}
			d.Crash("")
		}
	}
}
