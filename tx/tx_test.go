package tx

import (
	"fmt"
	"maps"
	"math"
	"slices"
	"strings"
	"testing"

	"lunette/api"
	"lunette/dev"
	"lunette/journal"
)

// full gives a sector's contents of one letter.
func full(c string) string { return strings.Repeat(c, 64) }

// numbered gives a sector's contents that tell n.
func numbered(n int) string { return fmt.Sprintf("%064d", n) }

// A disk is a device with a journal, and where the journal's area is.
type disk struct {
	d       *dev.Dev
	j       *journal.Journal
	from, n int
}

// newDisk gives a device of so many sectors, each with contents of its own, with a journal.
func newDisk(t *testing.T, sectors, from, n int) disk {
	t.Helper()
	d, e := dev.New(sectors)
	if e != api.OK {
		t.Fatalf("dev.New(%d): %v", sectors, e)
	}
	for i := range sectors {
		if i < from || i >= from+n {
			d.Write(i, numbered(i))
		}
	}
	d.Flush()
	return disk{d, opened(t, d, from, n), from, n}
}

// opened opens the journal of an area.
func opened(t *testing.T, d *dev.Dev, from, n int) *journal.Journal {
	t.Helper()
	j, e := journal.Open(d, from, n)
	if j == nil || e != api.OK {
		t.Fatalf("journal.Open(%d, %d): %v", from, n, e)
	}
	return j
}

// copied gives a disk of its own in the same state, which works.
func (k disk) copied(t *testing.T) disk {
	t.Helper()
	d := k.d.Copy()
	return disk{d, opened(t, d, k.from, k.n), k.from, k.n}
}

// begin begins a transaction.
func (k disk) begin(t *testing.T) *Tx {
	t.Helper()
	x, e := Begin(k.d, k.j)
	if x == nil || e != api.OK {
		t.Fatalf("Begin: %v", e)
	}
	return x
}

// A state is all that a device tells of itself.
type state struct {
	now, durable []string
	cached       []int
	writes       uint64
	down         bool
}

// stateOf gives the state of d.
func stateOf(d *dev.Dev) state {
	x := state{writes: d.Writes(), down: d.Down()}
	for i := range d.Len() {
		s, _ := d.Read(i)
		x.now = append(x.now, s)
		s, _ = d.Durable(i)
		x.durable = append(x.durable, s)
		x.cached = append(x.cached, d.Cached(i))
	}
	return x
}

// same tells whether two devices' states are equal.
func (x state) same(y state) bool {
	return slices.Equal(x.now, y.now) && slices.Equal(x.durable, y.durable) && slices.Equal(x.cached, y.cached) && x.writes == y.writes && x.down == y.down
}

// reads holds what a sector contains for x against what it ought to.
func reads(t *testing.T, x *Tx, sector int, want string) {
	t.Helper()
	if s, e := x.Read(sector); s != want || e != api.OK {
		t.Errorf("Read(%d): %q %v, want %q", sector, s, e, want)
	}
}

// wrote holds what Write answered against OK.
func wrote(t *testing.T, x *Tx, sector int, s string) {
	t.Helper()
	if e := x.Write(sector, s); e != api.OK {
		t.Errorf("Write(%d, %q): %v", sector, s, e)
	}
}

// patched holds what Patch answered against OK.
func patched(t *testing.T, x *Tx, sector, from int, s string) {
	t.Helper()
	if e := x.Patch(sector, from, s); e != api.OK {
		t.Errorf("Patch(%d, %d, %q): %v", sector, from, s, e)
	}
}

// has holds what x has written, in which order it is told, and what may be written yet, against what it ought to.
func has(t *testing.T, x *Tx, room int, touched ...int) {
	t.Helper()
	if l := x.Touched(); !slices.Equal(l, touched) {
		t.Errorf("Touched: %v, want %v", l, touched)
	}
	if n := x.Room(); n != room {
		t.Errorf("Room: %d, want %d", n, room)
	}
}

// committed holds a commit against OK, and the number of commits that there were.
func committed(t *testing.T, x *Tx, gen uint64) {
	t.Helper()
	if n, e := x.Commit(); n != gen || e != api.OK {
		t.Errorf("Commit: %d %v, want %d", n, e, gen)
	}
}

// edge gives numbers right outside those from 0 to n-1, and far off, some of which would be inside if they were cut to fewer bits.
func edge(n int) []int {
	return []int{-1, n, n + 1, -n, math.MinInt, math.MinInt + 1, math.MaxInt, math.MaxInt - 63, 1<<16 + 5, 1<<32 + 5, -1 << 32}
}

// texts gives texts of lengths at and behind the edges.
func texts() []string {
	return []string{"", "x", full("x")[1:], full("x"), full("x") + "x", full("x") + full("x"), strings.Repeat("x", 65536)}
}

// over holds each method of a transaction that isn't there, or is done, against its error, whatever it is asked; nothing comes of it.
func over(t *testing.T, x *Tx, want api.Errno) {
	t.Helper()
	for _, i := range append(edge(60), 0, 5, 59) {
		if s, e := x.Read(i); s != "" || e != want {
			t.Errorf("Read(%d): %q %v, want %v", i, s, e, want)
		}
		for _, s := range texts() {
			if e := x.Write(i, s); e != want {
				t.Errorf("Write(%d, %d bytes): %v, want %v", i, len(s), e, want)
			}
			for _, from := range append(edge(65), 0, 1, 63, 64) {
				if e := x.Patch(i, from, s); e != want {
					t.Errorf("Patch(%d, %d, %d bytes): %v, want %v", i, from, len(s), e, want)
				}
			}
		}
	}
	has(t, x, 0)
	if n, e := x.Commit(); n != 0 || e != want {
		t.Errorf("Commit: %d %v, want %v", n, e, want)
	}
	if e := x.Abort(); e != want {
		t.Errorf("Abort: %v, want %v", e, want)
	}
	has(t, x, 0)
}

// P8.1: a transaction has no writes at first, wherever the journal lies, and whatever was committed in it, or is in the device's cache; it changes nothing.
func TestBegin(t *testing.T) {
	for _, x := range []struct{ sectors, from, n, max int }{{60, 4, 4, 2}, {60, 0, 5, 3}, {60, 52, 8, 6}, {8, 0, 8, 6}, {80, 30, 34, 32}, {80, 30, 36, 33}, {4096, 3840, 256, 247}, {300, 0, 256, 247}} {
		k := newDisk(t, x.sectors, x.from, x.n)
		for gen := range uint64(4) {
			before := stateOf(k.d)
			a := k.begin(t)
			has(t, a, x.max)
			for i, s := range before.now {
				reads(t, a, i, s)
			}
			if !stateOf(k.d).same(before) {
				t.Errorf("%v: the device has changed", x)
			}
			committed(t, a, gen)
			k.j.Commit()
			k.d.Write(x.sectors-1, full("c"))
		}
	}
}

// P8.1: a device that has failed is one: only what isn't there is refused.
func TestBeginFailed(t *testing.T) {
	k := newDisk(t, 60, 4, 8)
	k.j.Commit()
	k.d.Fuse(0)
	x := k.begin(t)
	has(t, x, 6)
	committed(t, x, 1)
}

// P8.1: without a device, or a journal, there is no transaction.
func TestBeginNil(t *testing.T) {
	k := newDisk(t, 60, 4, 8)
	before := stateOf(k.d)
	for _, l := range []disk{{}, {d: k.d}, {j: k.j}} {
		if x, e := Begin(l.d, l.j); x != nil || e != api.ErrNil {
			t.Errorf("%v %v: %v %v", l.d != nil, l.j != nil, x, e)
		}
	}
	if !stateOf(k.d).same(before) {
		t.Error("the device has changed")
	}
}

// P8.2, P8.3: the chapter's example.
func TestExample(t *testing.T) {
	d, _ := dev.New(60)
	k := disk{d, opened(t, d, 20, 8), 20, 8}
	x := k.begin(t)
	wrote(t, x, 5, full("x"))
	reads(t, x, 5, full("x"))
	if s, e := d.Read(5); s != full("\x00") || e != api.OK {
		t.Errorf("the device's: %q %v", s, e)
	}
	patched(t, x, 5, 2, "ab")
	reads(t, x, 5, "xxab"+full("x")[4:])
	has(t, x, 5, 5)
	committed(t, x, 1)
	if s, e := x.Read(5); s != "" || e != api.ErrDone {
		t.Errorf("Read: %q %v", s, e)
	}
	if s, e := d.Durable(5); s != "xxab"+full("x")[4:] || e != api.OK {
		t.Errorf("the device's: %q %v", s, e)
	}
}

// P8.2: what was written and patched is read, in whatever order it was; of the others, what the device has now, be it in its cache.
func TestRead(t *testing.T) {
	k := newDisk(t, 60, 4, 8)
	x := k.begin(t)
	k.d.Write(40, full("c"))
	reads(t, x, 40, full("c"))
	k.d.Write(40, full("d"))
	reads(t, x, 40, full("d"))
	wrote(t, x, 59, full("a"))
	wrote(t, x, 0, full("b"))
	patched(t, x, 40, 63, "p")
	wrote(t, x, 30, full("e"))
	wrote(t, x, 59, full("f"))
	patched(t, x, 30, 0, "q")
	patched(t, x, 31, 10, "rs")
	wrote(t, x, 31, full("g"))
	has(t, x, 1, 0, 30, 31, 40, 59)
	// What the device gets meanwhile is seen where nothing was written.
	for _, i := range []int{0, 30, 31, 40, 41, 59} {
		k.d.Write(i, full("z"))
	}
	want := map[int]string{0: full("b"), 30: "q" + full("e")[1:], 31: full("g"), 40: full("d")[1:] + "p", 41: full("z"), 59: full("f")}
	for i := range 60 {
		s, _ := k.d.Read(i)
		if w, ok := want[i]; ok {
			s = w
		}
		reads(t, x, i, s)
		reads(t, x, i, s)
	}
	has(t, x, 1, 0, 30, 31, 40, 59)
}

// P8.2: all bytes of a sector are kept, whatever they are.
func TestBytes(t *testing.T) {
	k := newDisk(t, 60, 4, 8)
	x := k.begin(t)
	want := map[int]string{}
	for i := range 4 {
		b := make([]byte, 64)
		for at := range b {
			b[at] = byte(64*i + at)
		}
		want[50-i] = string(b)
		wrote(t, x, 50-i, string(b))
		reads(t, x, 50-i, string(b))
	}
	patched(t, x, 20, 0, want[50])
	want[20] = want[50]
	committed(t, x, 1)
	for i, w := range want {
		if s, e := k.d.Durable(i); s != w || e != api.OK {
			t.Errorf("sector %d: %q %v", i, s, e)
		}
	}
}

// P8.2: the device's first and last sectors are there, those in front and behind are not: nothing comes of them, whatever else is wrong.
func TestSectors(t *testing.T) {
	for _, n := range []int{8, 60, 4096} {
		k := newDisk(t, n, 1, 4)
		x := k.begin(t)
		wrote(t, x, n-2, full("w"))
		before := stateOf(k.d)
		for _, i := range edge(n) {
			if i >= 0 && i < n {
				continue
			}
			if s, e := x.Read(i); s != "" || e != api.ErrArg {
				t.Errorf("%d sectors, Read(%d): %q %v", n, i, s, e)
			}
			for _, s := range texts() {
				if e := x.Write(i, s); e != api.ErrArg {
					t.Errorf("%d sectors, Write(%d, %d bytes): %v", n, i, len(s), e)
				}
				for _, from := range append(edge(65), 0, 1, 63, 64) {
					if e := x.Patch(i, from, s); e != api.ErrArg {
						t.Errorf("%d sectors, Patch(%d, %d, %d bytes): %v", n, i, from, len(s), e)
					}
				}
			}
		}
		has(t, x, 1, n-2)
		reads(t, x, 0, numbered(0))
		reads(t, x, n-1, numbered(n-1))
		wrote(t, x, n-1, full("a"))
		reads(t, x, n-1, full("a"))
		has(t, x, 0, n-2, n-1)
		if !stateOf(k.d).same(before) {
			t.Errorf("%d sectors: the device has changed", n)
		}
		y := k.begin(t)
		patched(t, y, n-1, 64, "")
		patched(t, y, 0, 0, "b")
		has(t, y, 0, 0, n-1)
		reads(t, y, 0, "b"+numbered(0)[1:])
	}
}

// P8.2: Write takes texts of 64 bytes, and no others; one that is refused leaves the sector as it was.
func TestWriteLengths(t *testing.T) {
	k := newDisk(t, 60, 4, 8)
	x := k.begin(t)
	wrote(t, x, 30, full("a"))
	for _, i := range []int{0, 30, 59} {
		was, _ := x.Read(i)
		touched := x.Touched()
		for n := range 200 {
			if n == 64 {
				continue
			}
			if e := x.Write(i, strings.Repeat("b", n)); e != api.ErrArg {
				t.Errorf("Write(%d, %d bytes): %v", i, n, e)
			}
			reads(t, x, i, was)
			has(t, x, 6-len(touched), touched...)
		}
		wrote(t, x, i, full("b"))
		reads(t, x, i, full("b"))
	}
	has(t, x, 3, 0, 30, 59)
}

// replaced gives a sector's contents with s from that byte on, byte by byte, and whether they have all of it.
func replaced(now string, from int, s string) (string, bool) {
	b := []byte(now)
	for at := range len(s) {
		if from < 0 || from >= 64 || from+at >= 64 {
			return "", false
		}
		b[from+at] = s[at]
	}
	return string(b), from >= 0 && from <= 64
}

// P8.2: Patch at each byte, and behind the last one, of each length up to those that end behind it, in a sector that was written, was patched, or was neither.
func TestPatch(t *testing.T) {
	k := newDisk(t, 60, 4, 8)
	letters := strings.Repeat("abcdefghijklmnopqrstuvwxyz", 3)
	for from := -3; from < 68; from++ {
		for n := range 68 {
			x := k.begin(t)
			wrote(t, x, 30, full("w"))
			patched(t, x, 31, 7, "PPP")
			for _, i := range []int{30, 31, 32, 0, 59} {
				was, _ := x.Read(i)
				touched := x.Touched()
				want, may := replaced(was, from, letters[:n])
				switch e := x.Patch(i, from, letters[:n]); {
				case may && e != api.OK || !may && e != api.ErrArg:
					t.Errorf("Patch(%d, %d, %d bytes): %v", i, from, n, e)
				case may:
					reads(t, x, i, want)
					if slices.Index(x.Touched(), i) < 0 {
						t.Errorf("Patch(%d, %d, %d bytes): not written", i, from, n)
					}
				default:
					reads(t, x, i, was)
					has(t, x, 6-len(touched), touched...)
				}
			}
			if t.Failed() {
				return
			}
		}
	}
}

// P8.2: a number as from that is far off is refused, with a text of any length; nothing comes of it.
func TestPatchFar(t *testing.T) {
	k := newDisk(t, 60, 4, 8)
	x := k.begin(t)
	wrote(t, x, 30, full("w"))
	for _, s := range texts() {
		for _, from := range edge(65) {
			for _, i := range []int{30, 31} {
				if e := x.Patch(i, from, s); e != api.ErrArg {
					t.Errorf("Patch(%d, %d, %d bytes): %v", i, from, len(s), e)
				}
			}
		}
	}
	reads(t, x, 30, full("w"))
	reads(t, x, 31, numbered(31))
	has(t, x, 5, 30)
}

// P8.2: a patch of nothing is a write, too: the sector keeps what it contained then.
func TestPatchNothing(t *testing.T) {
	k := newDisk(t, 60, 4, 8)
	for _, from := range []int{0, 1, 63, 64} {
		x := k.begin(t)
		patched(t, x, 30, from, "")
		has(t, x, 5, 30)
		k.d.Write(30, full("z"))
		reads(t, x, 30, numbered(30))
		gen := k.j.Gen()
		committed(t, x, gen+1)
		if s, _ := k.d.Durable(30); s != numbered(30) {
			t.Errorf("%q", s)
		}
	}
}

// P8.2, P8.3: as many sectors as the journal's Max may be written, one more may not, be it written or patched; those that were written already may be again.
func TestFull(t *testing.T) {
	for _, k := range []disk{newDisk(t, 60, 4, 4), newDisk(t, 60, 0, 5), newDisk(t, 60, 52, 8), newDisk(t, 80, 40, 36), newDisk(t, 600, 3, 256)} {
		most := k.j.Max()
		x := k.begin(t)
		first := k.d.Len() - most
		if k.from+k.n > first {
			first = 0
		}
		var touched []int
		for m := range most {
			i := first + m
			if m%3 == 1 {
				patched(t, x, i, m%65, "")
			} else {
				wrote(t, x, i, full("a"))
			}
			touched = append(touched, i)
			has(t, x, most-m-1, touched...)
			wrote(t, x, i, full("b"))
			patched(t, x, first, 1, "c")
			has(t, x, most-m-1, touched...)
		}
		for _, i := range []int{first + most, k.from, k.d.Len() - 1, 0} {
			if slices.Index(touched, i) >= 0 || i == k.d.Len() {
				continue
			}
			s, _ := k.d.Read(i)
			for _, e := range []api.Errno{x.Write(i, full("x")), x.Patch(i, 0, full("x")), x.Patch(i, 63, "x"), x.Patch(i, 64, ""), x.Patch(i, 0, "")} {
				if e != api.ErrFull {
					t.Errorf("Max %d, sector %d: %v", most, i, e)
				}
			}
			// What is wrong is told ahead of what doesn't fit.
			for _, e := range []api.Errno{x.Write(i, full("x")[1:]), x.Write(-1, full("x")), x.Write(k.d.Len(), full("x")), x.Patch(i, 64, "x"), x.Patch(i, -1, ""), x.Patch(i, 65, ""), x.Patch(-1, 0, "x"), x.Patch(k.d.Len(), 0, "x"), x.Patch(i, math.MaxInt, "x")} {
				if e != api.ErrArg {
					t.Errorf("Max %d, sector %d: %v, want ErrArg", most, i, e)
				}
			}
			reads(t, x, i, s)
			has(t, x, 0, touched...)
		}
		wrote(t, x, touched[most-1], full("d"))
		patched(t, x, touched[0], 3, "e")
		patched(t, x, touched[most/2], 64, "")
		reads(t, x, touched[0], "bcbe"+full("b")[4:])
		reads(t, x, touched[most-1], full("d"))
		has(t, x, 0, touched...)
		committed(t, x, 1)
		if s, _ := k.d.Durable(touched[most-1]); s != full("d") {
			t.Errorf("Max %d: %q", most, s)
		}
		has(t, k.begin(t), most)
	}
}

// P8.2: of a device that has failed what was written is read; what only the device has isn't, and can't be patched. Wrong arguments are told first.
func TestFailedDevice(t *testing.T) {
	k := newDisk(t, 60, 4, 8)
	x := k.begin(t)
	wrote(t, x, 30, full("a"))
	k.d.Fuse(0)
	reads(t, x, 30, full("a"))
	patched(t, x, 30, 1, "b")
	wrote(t, x, 31, full("c"))
	has(t, x, 4, 30, 31)
	if s, e := x.Read(32); s != "" || e != api.ErrDown {
		t.Errorf("Read: %q %v", s, e)
	}
	for _, e := range []api.Errno{x.Patch(32, 0, "b"), x.Patch(32, 64, "")} {
		if e != api.ErrDown {
			t.Errorf("Patch: %v", e)
		}
	}
	_, a := x.Read(60)
	for _, e := range []api.Errno{a, x.Write(60, full("c")), x.Write(32, "c"), x.Patch(60, 0, "b"), x.Patch(32, 64, "b"), x.Patch(-1, 0, "b")} {
		if e != api.ErrArg {
			t.Errorf("%v, want ErrArg", e)
		}
	}
	has(t, x, 4, 30, 31)
	k.d.Crash("")
	reads(t, x, 32, numbered(32))
	reads(t, x, 30, "ab"+full("a")[2:])
}

// P8.3: Touched is in ascending order, each sector once, in whatever order they were written, and whatever is refused meanwhile.
func TestTouched(t *testing.T) {
	k := newDisk(t, 300, 0, 36)
	for step := 1; step < 300; step += 2 {
		x := k.begin(t)
		var want []int
		for m := range 33 {
			i := m * step * 7 % 300
			if slices.Index(want, i) < 0 {
				want = append(want, i)
			}
			slices.Sort(want)
			wrote(t, x, i, full("a"))
			x.Write(i, "a")
			x.Patch(i, 65, "")
			x.Write(300+i, full("a"))
			has(t, x, 33-len(want), want...)
		}
		if t.Failed() {
			return
		}
	}
}

// R5: what Touched answers is its asker's: changing it changes nothing, and no two answers share memory.
func TestTouchedNew(t *testing.T) {
	k := newDisk(t, 60, 40, 8)
	x := k.begin(t)
	for _, i := range []int{9, 3, 7} {
		wrote(t, x, i, full("a"))
	}
	l, other := x.Touched(), x.Touched()
	l[0], l[1], l[2] = 50, 51, 52
	l = append(l[:1], 53, 54, 55)
	has(t, x, 3, 3, 7, 9)
	if !slices.Equal(other, []int{3, 7, 9}) {
		t.Errorf("%v", other)
	}
	wrote(t, x, 5, full("b"))
	if !slices.Equal(other, []int{3, 7, 9}) || l[0] != 50 {
		t.Errorf("%v %v", other, l)
	}
	has(t, x, 2, 3, 5, 7, 9)
}

// order gives m sectors outside an area, from the device's last one and its first one on, in an order that neither rises nor falls.
func (k disk) order(m int) []int {
	l := []int{}
	for _, i := range append([]int{k.d.Len() - 1, 0, k.from + k.n, k.from - 1}, rising(k.d.Len())...) {
		i = (i + k.d.Len()) % k.d.Len()
		if len(l) < m && slices.Index(l, i) < 0 && (i < k.from || i >= k.from+k.n) {
			l = append(l, i)
		}
	}
	return l
}

// rising gives the numbers below n, those far apart one behind the other.
func rising(n int) []int {
	var l []int
	for i := range n {
		l = append(l, (i*7+3)%n)
	}
	return l
}

// P8.3: what was written is on the device, durably, and nothing else has changed: nothing, one sector, some, as many as the journal's Max; the number counts the journal's commits.
func TestCommit(t *testing.T) {
	for _, k := range []disk{newDisk(t, 60, 4, 4), newDisk(t, 60, 0, 5), newDisk(t, 60, 52, 8), newDisk(t, 80, 30, 36), newDisk(t, 600, 300, 256)} {
		gen := uint64(0)
		for _, m := range []int{0, 1, 2, k.j.Max() - 1, k.j.Max(), 1, 0} {
			x := k.begin(t)
			want := stateOf(k.d)
			for _, i := range k.order(m) {
				wrote(t, x, i, full("x"))
				wrote(t, x, i, full(string(rune('a'+gen))))
				want.now[i] = full(string(rune('a' + gen)))
			}
			if m > 0 {
				gen++
			}
			committed(t, x, gen)
			if k.j.Gen() != gen {
				t.Errorf("Gen %d, want %d", k.j.Gen(), gen)
			}
			if m == 0 && !stateOf(k.d).same(want) {
				t.Error("the device has changed by nothing")
			}
			over(t, x, api.ErrDone)
			k.d.Crash("")
			is(t, k, want.now)
		}
	}
}

// is holds what the sectors outside the area contain, durably, against what they ought to.
func is(t *testing.T, k disk, want []string) {
	t.Helper()
	for i, w := range want {
		if i >= k.from && i < k.from+k.n {
			continue
		}
		s, e := k.d.Read(i)
		if d, _ := k.d.Durable(i); s != w || d != w || e != api.OK {
			t.Errorf("sector %d: %q %v, durably %q, want %q", i, s, e, d, w)
		}
	}
}

// P8.3: Commit is the journal's Commit of all writes in ascending order of sectors: at each write after which the device fails it is in the same state as by that one.
func TestCommitIsTheJournals(t *testing.T) {
	for _, k := range []disk{newDisk(t, 60, 4, 8), newDisk(t, 60, 0, 4), newDisk(t, 80, 30, 36)} {
		m := k.j.Max()
		for fuse := 1; fuse < 2*m+6; fuse++ {
			a, b := k.copied(t), k.copied(t)
			x := a.begin(t)
			puts := map[int]string{}
			for n, i := range k.order(m) {
				wrote(t, x, i, full("x"))
				puts[i] = numbered(1000 + n)
			}
			for i, s := range puts {
				patched(t, x, i, 0, s)
			}
			var l []api.Put
			for _, i := range slices.Sorted(maps.Keys(puts)) {
				l = append(l, api.Put{Sector: i, Data: puts[i]})
			}
			a.d.Fuse(fuse)
			b.d.Fuse(fuse)
			gen, e := x.Commit()
			if n, f := b.j.Commit(l...); gen != n || e != f {
				t.Errorf("fuse %d: %d %v, want %d %v", fuse, gen, e, n, f)
			}
			a.d.Crash("")
			b.d.Crash("")
			if !stateOf(a.d).same(stateOf(b.d)) {
				t.Errorf("fuse %d: another state", fuse)
			}
			// With what was in the cache, too.
			a, b = k.copied(t), k.copied(t)
			x = a.begin(t)
			for _, p := range l {
				wrote(t, x, p.Sector, p.Data)
			}
			a.d.Fuse(fuse)
			b.d.Fuse(fuse)
			x.Commit()
			b.j.Commit(l...)
			if !stateOf(a.d).same(stateOf(b.d)) {
				t.Errorf("fuse %d: another state in the cache", fuse)
			}
		}
	}
}

// P8.3: a commit that fails ends the transaction, too, with the journal's error; nothing comes of it, and another transaction may be begun.
func TestCommitFails(t *testing.T) {
	k := newDisk(t, 60, 4, 8)
	k.j.Commit()
	fails := func(x *Tx, want api.Errno) {
		t.Helper()
		before := stateOf(k.d)
		if n, e := x.Commit(); n != 0 || e != want {
			t.Errorf("Commit: %d %v, want %v", n, e, want)
		}
		over(t, x, api.ErrDone)
		if !stateOf(k.d).same(before) || k.j.Gen() != 1 {
			t.Errorf("the device has changed, Gen %d", k.j.Gen())
		}
	}
	for i := 4; i < 12; i++ { // the area's own sectors may be written in the transaction, but not committed
		x := k.begin(t)
		wrote(t, x, 30, full("a"))
		patched(t, x, i, 3, "b")
		wrote(t, x, 2, full("c"))
		has(t, x, 3, 2, i, 30)
		fails(x, api.ErrArea)
		x = k.begin(t)
		wrote(t, x, i, full("a"))
		fails(x, api.ErrArea)
	}
	x, own, none := k.begin(t), k.begin(t), k.begin(t)
	wrote(t, x, 30, full("a"))
	wrote(t, own, 4, full("a"))
	k.d.Fuse(0)
	fails(x, api.ErrDown)
	fails(own, api.ErrArea)
	committed(t, none, 1) // nothing is written by it
	over(t, none, api.ErrDone)
	k.d.Crash("")
	over(t, x, api.ErrDone)
	y := k.begin(t)
	wrote(t, y, 30, full("d"))
	committed(t, y, 2)
	if s, _ := k.d.Durable(30); s != full("d") {
		t.Errorf("%q", s)
	}
}

// P8.3: what is aborted isn't on the device, and the transaction is done; the next one has nothing of it.
func TestAbort(t *testing.T) {
	k := newDisk(t, 60, 4, 8)
	before := stateOf(k.d)
	for m := range 7 {
		x := k.begin(t)
		for _, i := range k.order(m) {
			wrote(t, x, i, full("a"))
		}
		if e := x.Abort(); e != api.OK {
			t.Errorf("Abort: %v", e)
		}
		over(t, x, api.ErrDone)
		y := k.begin(t)
		has(t, y, 6)
		for i, s := range before.now {
			reads(t, y, i, s)
		}
		committed(t, y, 0)
	}
	if !stateOf(k.d).same(before) {
		t.Error("the device has changed")
	}
	k.d.Fuse(0)
	if e := k.begin(t).Abort(); e != api.OK { // nothing is asked of the device
		t.Errorf("Abort: %v", e)
	}
}

// R3: of no transaction there is nothing.
func TestNil(t *testing.T) { over(t, nil, api.ErrNil) }

// P8.1 to P8.3: two transactions on one journal, one behind the other, and both at once: each has its own writes, and sees what was committed where it has none.
func TestTwo(t *testing.T) {
	k := newDisk(t, 60, 4, 8)
	x := k.begin(t)
	wrote(t, x, 30, full("a"))
	wrote(t, x, 31, full("a"))
	committed(t, x, 1)
	y := k.begin(t)
	reads(t, y, 30, full("a"))
	patched(t, y, 30, 1, "b")
	has(t, y, 5, 30)
	z := k.begin(t)
	has(t, z, 6)
	reads(t, z, 30, full("a"))
	wrote(t, z, 31, full("c"))
	wrote(t, z, 32, full("c"))
	reads(t, y, 31, full("a"))
	committed(t, y, 2)
	over(t, y, api.ErrDone)
	reads(t, z, 30, "ab"+full("a")[2:])
	reads(t, z, 31, full("c"))
	has(t, z, 4, 31, 32)
	committed(t, z, 3)
	for i, w := range map[int]string{30: "ab" + full("a")[2:], 31: full("c"), 32: full("c"), 33: numbered(33)} {
		if s, e := k.d.Durable(i); s != w || e != api.OK {
			t.Errorf("sector %d: %q %v", i, s, e)
		}
	}
}

// The device itself is the transaction's, whose other methods it has.
func TestSameDevice(t *testing.T) {
	k := newDisk(t, 60, 4, 8)
	x := k.begin(t)
	wrote(t, x, 30, full("a"))
	if s, e := x.Durable(30); x.Dev != k.d || x.Len() != 60 || s != numbered(30) || e != api.OK {
		t.Errorf("another device: %d sectors, %q %v", x.Len(), s, e)
	}
}

// P8.4: until the commit nothing on the device changes, whatever is asked.
func TestNothingBefore(t *testing.T) {
	k := newDisk(t, 60, 4, 8)
	k.d.Write(20, full("c")) // in the cache
	before := stateOf(k.d)
	x, y := k.begin(t), k.begin(t)
	for n := range 400 {
		i := n * 7 % 60
		for _, z := range []*Tx{x, y} {
			z.Read(i)
			z.Write(i, numbered(n))
			z.Patch((i+n)%60, n%70-2, full("p")[:n%66%64])
			z.Touched()
			z.Room()
		}
		if !stateOf(k.d).same(before) {
			t.Fatalf("step %d: the device has changed", n)
		}
	}
	x.Abort()
	if !stateOf(k.d).same(before) || k.j.Gen() != 0 || len(y.Touched()) != 6 {
		t.Errorf("the device has changed by an abort, or the other transaction: %v", y.Touched())
	}
}

// keeps gives what a crash may keep of n sectors in the cache: all choices, if they are few; otherwise none, all, every second one, a half, and each one alone or left out at the edges.
func keeps(n int) []string {
	keep := func(kept func(k int) bool) string {
		b := make([]byte, n)
		for k := range b {
			if kept(k) {
				b[k] = 1
			}
		}
		return string(b)
	}
	var l []string
	if n <= 6 {
		for c := range 1 << n {
			l = append(l, keep(func(k int) bool { return c>>k&1 == 1 }))
		}
		return l
	}
	for _, f := range []func(k int) bool{func(k int) bool { return false }, func(k int) bool { return true }, func(k int) bool { return k%2 == 0 }, func(k int) bool { return k >= n/2 }} {
		l = append(l, keep(f))
	}
	for _, i := range []int{0, n / 2, n - 1} {
		l = append(l, keep(func(k int) bool { return k == i }), keep(func(k int) bool { return k != i }))
	}
	return l
}

// P8.4: wherever in a commit the device fails, and whatever a crash keeps: behind the next Open all of the writes are there, or none, as Gen tells; all else is as it was.
func TestCrash(t *testing.T) {
	for _, y := range []struct{ sectors, from, n, m int }{{20, 3, 4, 1}, {20, 0, 4, 2}, {20, 12, 8, 3}, {20, 4, 8, 6}, {30, 0, 8, 5}, {80, 4, 40, 33}, {300, 20, 256, 40}} {
		k := newDisk(t, y.sectors, y.from, y.n)
		first := k.begin(t)
		for _, i := range k.order(k.j.Max()) {
			wrote(t, first, i, full("p"))
		}
		committed(t, first, 1)
		before := stateOf(k.d).now
		after := slices.Clone(before)
		for _, i := range k.order(y.m) {
			after[i] = "new" + before[i][3:]
		}
		old, fresh := 0, 0
		for fuse, ended := 0, false; !ended; fuse++ {
			f := k.copied(t)
			x := f.begin(t)
			for _, i := range k.order(y.m) {
				patched(t, x, i, 0, "new")
			}
			f.d.Fuse(fuse)
			gen, e := x.Commit()
			ended = e == api.OK
			if ended && gen != 2 || !ended && (gen != 0 || e != api.ErrDown) {
				t.Errorf("%v, fuse %d: %d %v", y, fuse, gen, e)
			}
			for _, keep := range keeps(len(f.d.Loose())) {
				g := disk{d: f.d.Copy(), from: y.from, n: y.n}
				g.d.Crash(keep)
				g.j = opened(t, g.d, y.from, y.n)
				switch g.j.Gen() {
				case 1:
					old++
					is(t, g, before)
					if ended {
						t.Error("not there, and answered OK")
					}
				case 2:
					fresh++
					is(t, g, after)
				default:
					t.Errorf("Gen %d", g.j.Gen())
				}
				if t.Failed() {
					t.Fatalf("%v, fuse %d, keep %q", y, fuse, keep)
				}
			}
		}
		if old == 0 || fresh < 2 {
			t.Errorf("%v: %d times as before, %d times as behind", y, old, fresh)
		}
	}
}

// A plain transaction is what the chapter says of one, in plain words: what the package is held against.
type plain struct {
	d       *dev.Dev
	max     int
	written map[int]string
	done    bool
}

// read gives what the sector contains.
func (p *plain) read(i int) (string, api.Errno) {
	if p.done {
		return "", api.ErrDone
	}
	if i < 0 || i >= p.d.Len() {
		return "", api.ErrArg
	}
	if s, ok := p.written[i]; ok {
		return s, api.OK
	}
	s, _ := p.d.Read(i)
	return s, api.OK
}

// write writes a sector.
func (p *plain) write(i int, s string) api.Errno {
	if _, e := p.read(i); e != api.OK {
		return e
	}
	if len(s) != 64 {
		return api.ErrArg
	}
	if _, ok := p.written[i]; !ok && len(p.written) == p.max {
		return api.ErrFull
	}
	p.written[i] = s
	return api.OK
}

// patch patches a sector.
func (p *plain) patch(i, from int, s string) api.Errno {
	now, e := p.read(i)
	if e != api.OK {
		return e
	}
	s, may := replaced(now, from, s)
	if !may {
		return api.ErrArg
	}
	return p.write(i, s)
}

// touched gives the sectors that were written.
func (p *plain) touched() []int {
	var l []int
	for i := range p.d.Len() { // of no device there are none
		if _, ok := p.written[i]; ok && !p.done {
			l = append(l, i)
		}
	}
	return l
}

// P8.1 to P8.4: long runs of all methods, with arguments at and behind all edges, on small journals: each answer is that of a plain transaction, and the device has what was committed.
func TestRuns(t *testing.T) {
	for seed := range 60 {
		k := newDisk(t, []int{9, 12, 60}[seed%3], seed%3, 4+seed%5)
		now := stateOf(k.d).now
		var gen uint64
		v := uint32(seed)
		draw := func(n int) int {
			v = v*1664525 + 1013904223
			return int(v>>8) % n
		}
		var x *Tx
		p := &plain{done: true}
		for step := range 400 {
			if p.done && draw(4) == 0 || x == nil {
				x = k.begin(t)
				p = &plain{d: k.d, max: k.j.Max(), written: map[int]string{}}
			}
			i, from := draw(k.d.Len()+2)-1, draw(68)-2
			if i >= k.from && i < k.from+k.n && draw(4) > 0 {
				i = k.d.Len() - 1
			}
			switch draw(16) {
			default:
				s, e := x.Read(i)
				if w, f := p.read(i); s != w || e != f {
					t.Errorf("Read(%d): %q %v, want %q %v", i, s, e, w, f)
				}
			case 1, 2, 3, 4:
				s := strings.Repeat(string(rune('a'+draw(26))), 64+draw(12)/11-draw(12)/11)
				if e, f := x.Write(i, s), p.write(i, s); e != f {
					t.Errorf("Write(%d, %d bytes): %v, want %v", i, len(s), e, f)
				}
			case 5, 6, 7, 8:
				s := strings.Repeat("P", draw(66-max(0, min(from, 60))))
				if e, f := x.Patch(i, from, s), p.patch(i, from, s); e != f {
					t.Errorf("Patch(%d, %d, %d bytes): %v, want %v", i, from, len(s), e, f)
				}
			case 9:
				want := api.OK
				if p.done {
					want = api.ErrDone
				}
				if e := x.Abort(); e != want {
					t.Errorf("Abort: %v, want %v", e, want)
				}
				p.done = true
			case 10:
				want, own := api.OK, slices.ContainsFunc(p.touched(), func(i int) bool { return i >= k.from && i < k.from+k.n })
				switch {
				case p.done:
					want = api.ErrDone
				case own:
					want = api.ErrArea
				default:
					if len(p.written) > 0 {
						gen++
					}
					for i, s := range p.written {
						now[i] = s
					}
				}
				n, e := x.Commit()
				if e != want || e == api.OK && n != gen || e != api.OK && n != 0 {
					t.Errorf("Commit: %d %v, want %d %v", n, e, gen, want)
				}
				p.done = true
			}
			room := 0
			if !p.done {
				room = p.max - len(p.written)
			}
			has(t, x, room, p.touched()...)
			is(t, k, now)
			if t.Failed() {
				t.Fatalf("seed %d, step %d", seed, step)
			}
		}
		if gen == 0 {
			t.Errorf("seed %d: nothing was committed", seed)
		}
	}
}
