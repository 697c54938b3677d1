package dev

import (
	"fmt"
	"math"
	"slices"
	"strings"
	"testing"

	"lunette/api"
)

// full gives a sector's contents of one letter.
func full(c string) string { return strings.Repeat(c, 64) }

// zero is what sectors contain at first.
var zero = full("\x00")

// newDev gives a device of n sectors.
func newDev(t *testing.T, n int) *Dev {
	t.Helper()
	d, e := New(n)
	if d == nil || e != api.OK {
		t.Fatalf("New(%d): %v", n, e)
	}
	return d
}

// write writes the letters, a write each, to the sector i.
func write(t *testing.T, d *Dev, i int, letters string) {
	t.Helper()
	for _, c := range strings.Split(letters, "") {
		if e := d.Write(i, full(c)); e != api.OK {
			t.Fatalf("Write(%d, %s..): %v", i, c, e)
		}
	}
}

// is holds the sector i against what it contains now, what is durable (a letter each), and how many cached writes it has.
func is(t *testing.T, d *Dev, i int, now, durable string, cached int) {
	t.Helper()
	if s, e := d.Read(i); s != full(now) || e != api.OK {
		t.Errorf("Read(%d): %q %v, want %q", i, s, e, now)
	}
	if s, e := d.Durable(i); s != full(durable) || e != api.OK {
		t.Errorf("Durable(%d): %q %v, want %q", i, s, e, durable)
	}
	if n := d.Cached(i); n != cached {
		t.Errorf("Cached(%d): %d, want %d", i, n, cached)
	}
}

// P3.1: sizes from 8 to 4,096 are those that there are; nothing is told beside an error.
func TestNew(t *testing.T) {
	for _, n := range []int{8, 9, 10, 100, 4095, 4096} {
		d := newDev(t, n)
		if d.Len() != n || d.Down() || d.Writes() != 0 || len(d.Loose()) != 0 {
			t.Errorf("New(%d): %d sectors, %v, %d writes, %v", n, d.Len(), d.Down(), d.Writes(), d.Loose())
		}
		for i := range n {
			is(t, d, i, "\x00", "\x00", 0)
		}
	}
	for _, n := range []int{7, 4097, 0, 1, -1, -8, 1 << 32, math.MaxInt, math.MinInt} {
		if d, e := New(n); d != nil || e != api.ErrArg {
			t.Errorf("New(%d): %v %v", n, d, e)
		}
	}
}

// P3.1: what is written is read, in the first and the last sector as in any other, and in no other one.
func TestReadWrite(t *testing.T) {
	for _, n := range []int{8, 9, 4096} {
		for _, i := range []int{0, 1, 7, n / 2, n - 1} {
			d := newDev(t, n)
			write(t, d, i, "a")
			is(t, d, i, "a", "\x00", 1)
			write(t, d, i, "bab")
			is(t, d, i, "b", "\x00", 4)
			for k := range n {
				if k != i {
					is(t, d, k, "\x00", "\x00", 0)
				}
			}
		}
	}
}

// P3.1: all 64 bytes of a sector are kept, whatever they are.
func TestWriteBytes(t *testing.T) {
	d := newDev(t, 8)
	b := make([]byte, 256)
	for i := range b {
		b[i] = byte(i)
	}
	for k := range 4 {
		s := string(b[64*k : 64*k+64])
		if e := d.Write(k, s); e != api.OK {
			t.Error(k, e)
		}
		if got, e := d.Read(k); got != s || e != api.OK {
			t.Errorf("Read(%d): %q %v, want %q", k, got, e, s)
		}
	}
	d.Flush()
	for k := range 4 {
		if got, e := d.Durable(k); got != string(b[64*k:64*k+64]) || e != api.OK {
			t.Errorf("Durable(%d): %q %v", k, got, e)
		}
	}
}

// P3.1: sectors that are not there, and texts that are no sector's, are refused, and change nothing.
func TestReadWriteWrong(t *testing.T) {
	for _, n := range []int{8, 4096} {
		d := newDev(t, n)
		write(t, d, 0, "a")
		for _, i := range []int{n, n + 1, -1, -n, math.MaxInt, math.MinInt} {
			if s, e := d.Read(i); s != "" || e != api.ErrArg {
				t.Errorf("Read(%d): %q %v", i, s, e)
			}
			if e := d.Write(i, full("x")); e != api.ErrArg {
				t.Errorf("Write(%d): %v", i, e)
			}
		}
		for _, s := range []string{"", "x", full("x")[1:], full("x") + "y", full("x") + full("y")} {
			for _, i := range []int{0, 3, n - 1, n, -1} {
				if e := d.Write(i, s); e != api.ErrArg {
					t.Errorf("Write(%d) of %d bytes: %v", i, len(s), e)
				}
			}
		}
		is(t, d, 0, "a", "\x00", 1)
		is(t, d, 3, "\x00", "\x00", 0)
		is(t, d, n-1, "\x00", "\x00", 0)
		if d.Writes() != 1 || !slices.Equal(d.Loose(), []int{0}) {
			t.Errorf("%d writes, %v", d.Writes(), d.Loose())
		}
	}
}

// P3.2: of any number of cached writes the k-th becomes durable, and the later ones stay cached.
func TestBack(t *testing.T) {
	for n := range 5 {
		for k := range n + 1 {
			d := newDev(t, 8)
			write(t, d, 2, "z")
			write(t, d, 7, "yx")
			if n > 0 {
				write(t, d, 5, "abcd"[:n])
			}
			if e := d.Back(5, k); e != api.OK {
				t.Errorf("Back(5, %d) of %d: %v", k, n, e)
			}
			letters := "\x00abcd"
			is(t, d, 5, letters[n:n+1], letters[k:k+1], n-k)
			is(t, d, 2, "z", "\x00", 1)
			is(t, d, 7, "x", "\x00", 2)
			if want := n > k; slices.Contains(d.Loose(), 5) != want {
				t.Errorf("Back(5, %d) of %d: %v", k, n, d.Loose())
			}
		}
	}
}

// P3.2: what is left after Back is counted from 1 again, and more may be written behind it.
func TestBackAgain(t *testing.T) {
	d := newDev(t, 8)
	write(t, d, 7, "abcd")
	for _, x := range []struct {
		k       int
		e       api.Errno
		durable string
		cached  int
	}{{1, api.OK, "a", 3}, {0, api.OK, "a", 3}, {4, api.ErrArg, "a", 3}, {2, api.OK, "c", 1}, {2, api.ErrArg, "c", 1}} {
		if e := d.Back(7, x.k); e != x.e {
			t.Errorf("Back(7, %d): %v, want %v", x.k, e, x.e)
		}
		is(t, d, 7, "d", x.durable, x.cached)
	}
	write(t, d, 7, "ef")
	is(t, d, 7, "f", "c", 3)
	for k, c := range []string{"d", "e", "f"} {
		if e := d.Back(7, 1); e != api.OK {
			t.Error(e)
		}
		is(t, d, 7, "f", c, 2-k)
	}
	if e := d.Back(7, 1); e != api.ErrArg || d.Writes() != 6 {
		t.Errorf("%v, %d writes", e, d.Writes())
	}
}

// P3.2: sectors that are not there, and more writes than are cached, are refused, and change nothing.
func TestBackWrong(t *testing.T) {
	d := newDev(t, 8)
	write(t, d, 0, "ab")
	write(t, d, 7, "c")
	for _, x := range [][2]int{{8, 0}, {8, 1}, {-1, 0}, {-1, 1}, {math.MaxInt, 0}, {math.MinInt, 0}, {0, 3}, {0, -1}, {7, 2}, {3, 1}, {3, -1}, {0, math.MaxInt}, {0, math.MinInt}} {
		if e := d.Back(x[0], x[1]); e != api.ErrArg {
			t.Errorf("Back(%d, %d): %v", x[0], x[1], e)
		}
	}
	is(t, d, 0, "b", "\x00", 2)
	is(t, d, 7, "c", "\x00", 1)
	is(t, d, 3, "\x00", "\x00", 0)
}

// P3.2: after Flush all is durable, and nothing cached.
func TestFlush(t *testing.T) {
	for _, n := range []int{8, 4096} {
		d := newDev(t, n)
		write(t, d, 0, "abc")
		write(t, d, 3, "d")
		write(t, d, n-1, "ef")
		for range 2 { // The second one finds nothing to do.
			if e := d.Flush(); e != api.OK || len(d.Loose()) != 0 || d.Writes() != 6 {
				t.Errorf("Flush: %v, %v, %d writes", e, d.Loose(), d.Writes())
			}
			is(t, d, 0, "c", "c", 0)
			is(t, d, 1, "\x00", "\x00", 0)
			is(t, d, 3, "d", "d", 0)
			is(t, d, n-1, "f", "f", 0)
		}
		write(t, d, 3, "g")
		is(t, d, 3, "g", "d", 1)
		d.Crash("")
		is(t, d, 3, "d", "d", 0)
	}
}

// P3.3: a device fails right behind the last write that its fuse allows; what was refused is no write, nor is Back, or Flush.
func TestFuse(t *testing.T) {
	for n := range 5 {
		d := newDev(t, 8)
		if e := d.Fuse(n); e != api.OK {
			t.Errorf("Fuse(%d): %v", n, e)
		}
		for k := range n {
			if d.Down() {
				t.Errorf("Fuse(%d): failed after %d writes", n, k)
			}
			if d.Write(8, full("x")) != api.ErrArg || d.Write(0, "x") != api.ErrArg || d.Back(0, d.Cached(0)) != api.OK || d.Flush() != api.OK {
				t.Errorf("Fuse(%d): not what it ought to be after %d writes", n, k)
			}
			write(t, d, 0, "a")
		}
		if !d.Down() || d.Write(0, full("b")) != api.ErrDown || d.Writes() != uint64(n) {
			t.Errorf("Fuse(%d): %v, %d writes", n, d.Down(), d.Writes())
		}
	}
}

// P3.3: without a fuse a device doesn't fail.
func TestNoFuse(t *testing.T) {
	d := newDev(t, 8)
	for range 1000 {
		write(t, d, 1, "a")
	}
	if d.Down() || d.Writes() != 1000 || d.Cached(1) != 1000 {
		t.Errorf("%v, %d writes, %d cached", d.Down(), d.Writes(), d.Cached(1))
	}
}

// P3.3: a fuse that is set anew counts from there, be it longer or shorter; a negative one is refused, and leaves the one that is there.
func TestFuseAnew(t *testing.T) {
	for _, x := range []struct {
		fuses []int
		most  int
	}{{[]int{2, 5}, 5}, {[]int{5, 2}, 2}, {[]int{5, 0}, 0}, {[]int{3, 3}, 3}, {[]int{4, -1}, 3}, {[]int{4, math.MinInt}, 3}} {
		d := newDev(t, 8)
		for k, n := range x.fuses {
			want := api.OK
			if n < 0 {
				want = api.ErrArg
			}
			if e := d.Fuse(n); e != want {
				t.Errorf("Fuse(%d): %v, want %v", n, e, want)
			}
			if k == 0 {
				write(t, d, 0, "a")
			}
		}
		for range x.most {
			write(t, d, 0, "b")
		}
		if !d.Down() || d.Write(0, full("c")) != api.ErrDown {
			t.Errorf("%v: has not failed after %d more writes", x.fuses, x.most)
		}
	}
	d := newDev(t, 8)
	if e := d.Fuse(math.MaxInt); e != api.OK || d.Down() {
		t.Error(e)
	}
	write(t, d, 0, "a")
	if e := d.Fuse(-1); e != api.ErrArg || d.Down() {
		t.Error(e)
	}
}

// P3.3: a device that has failed answers so ahead of all else, whatever fuse it gets, until it crashes; what is to be seen of it still is.
func TestDown(t *testing.T) {
	for _, n := range []int{-1, 0, 1, 5} {
		d := newDev(t, 8)
		write(t, d, 3, "a")
		d.Flush()
		d.Fuse(2)
		write(t, d, 3, "bc")
		if e := d.Fuse(n); (e == api.OK) != (n >= 0) || !d.Down() {
			t.Errorf("Fuse(%d): %v, %v", n, e, d.Down())
		}
		for _, i := range []int{3, 0, 8, -1} {
			if s, e := d.Read(i); s != "" || e != api.ErrDown {
				t.Errorf("Read(%d): %q %v", i, s, e)
			}
			if d.Write(i, full("x")) != api.ErrDown || d.Write(i, "x") != api.ErrDown {
				t.Errorf("Write(%d) of a device that has failed", i)
			}
			if d.Back(i, 0) != api.ErrDown || d.Back(i, 1) != api.ErrDown || d.Back(i, 9) != api.ErrDown {
				t.Errorf("Back(%d) of a device that has failed", i)
			}
		}
		if d.Flush() != api.ErrDown {
			t.Error("Flush of a device that has failed")
		}
		if s, e := d.Durable(3); s != full("a") || e != api.OK || d.Cached(3) != 2 || !slices.Equal(d.Loose(), []int{3}) || d.Writes() != 3 || d.Len() != 8 {
			t.Errorf("%q %v, %d cached, %v, %d writes", s, e, d.Cached(3), d.Loose(), d.Writes())
		}
		if s, e := d.Durable(8); s != "" || e != api.ErrArg {
			t.Errorf("Durable(8): %q %v", s, e)
		}
		if e := d.Crash("\x01"); e != api.OK || d.Down() {
			t.Error(e)
		}
		is(t, d, 3, "b", "b", 0)
		for range 9 { // No fuse is left, that of a failed device neither.
			write(t, d, 3, "d")
		}
		if d.Down() || d.Writes() != 12 || d.Flush() != api.OK {
			t.Errorf("%v, %d writes", d.Down(), d.Writes())
		}
	}
}

// P3.3: a crash takes a fuse away that has not burned down, too.
func TestCrashFuse(t *testing.T) {
	for _, n := range []int{1, 2} {
		d := newDev(t, 8)
		d.Fuse(n)
		if e := d.Crash(""); e != api.OK || d.Down() {
			t.Error(e)
		}
		write(t, d, 0, "abc")
		if d.Down() {
			t.Errorf("Fuse(%d): failed after a crash", n)
		}
		d.Fuse(1)
		write(t, d, 0, "d")
		if !d.Down() {
			t.Error("has not failed at a fuse behind a crash")
		}
	}
}

// P3.3: bytes of keep say, in order, how many writes of each sector with cached ones are kept, modulo their number plus 1; those that are wanting are 0.
func TestCrash(t *testing.T) {
	for _, x := range []struct{ keep, want string }{
		{"", "\x00..z"},
		{"\x00\x00\x00", "\x00..z"},
		{"\x01", "a..z"},
		{"\x02", "b..z"},
		{"\x03", "c..z"},
		{"\x04", "\x00..z"},
		{"\x07", "c..z"},
		{"\xff", "c..z"},
		{"\x00\x01", "\x00.dz"},
		{"\x00\x02", "\x00..z"},
		{"\x00\xff", "\x00.dz"},
		{"\x00\x00\x01", "\x00..e"},
		{"\x00\x00\x02", "\x00..f"},
		{"\x00\x00\x03", "\x00..z"},
		{"\x02\x01\x01", "b.de"},
		{"\x03\x01\x02", "c.df"},
		{"\x03\x01\x02\x01\x01\x01", "c.df"},
		{"\x00\x00\x00\x01\x02\x03", "\x00..z"},
		{"\xfe\xfd\xfc", "b.dz"},
		{"123", "a..z"},
	} {
		d := newDev(t, 8)
		write(t, d, 7, "z")
		write(t, d, 5, ".")
		write(t, d, 4, ".")
		d.Flush()
		// They are written from the last sector on, so that the order of writes is not that of sectors.
		write(t, d, 7, "ef")
		write(t, d, 5, "d")
		write(t, d, 2, "abc")
		if e := d.Crash(x.keep); e != api.OK {
			t.Errorf("Crash(%q): %v", x.keep, e)
		}
		for k, i := range []int{2, 4, 5, 7} {
			is(t, d, i, x.want[k:k+1], x.want[k:k+1], 0)
		}
		if len(d.Loose()) != 0 || d.Writes() != 9 {
			t.Errorf("Crash(%q): %v, %d writes", x.keep, d.Loose(), d.Writes())
		}
	}
}

// P3.3: sectors come in the order of their numbers, however many there are, and only those that have cached writes get a byte.
func TestCrashOrder(t *testing.T) {
	d := newDev(t, 4096)
	var keep []byte
	for k := range 4096 {
		i := (k*1237 + 11) % 4096
		if i%3 != 0 {
			write(t, d, i, "abcd")
		}
	}
	for i := range 4096 {
		if i%3 != 0 {
			keep = append(keep, byte(i%5))
		}
	}
	d.Crash(string(keep))
	for i := range 4096 {
		want := "\x00"
		if i%3 != 0 {
			want = "\x00abcd"[i%5 : i%5+1]
		}
		is(t, d, i, want, want, 0)
	}
}

// P3.3: of more writes than a byte counts, only so many are kept as the byte says.
func TestCrashManyWrites(t *testing.T) {
	for _, x := range []struct {
		n    int
		keep string
		kept int
	}{{254, "\xff", 0}, {255, "\xff", 255}, {256, "\xff", 255}, {300, "\xff", 255}, {300, "\x80", 128}, {127, "\x80", 0}, {127, "\xff", 127}} {
		d := newDev(t, 8)
		for k := range x.n {
			if e := d.Write(6, numbered(k+1)); e != api.OK {
				t.Error(e)
			}
		}
		d.Crash(x.keep)
		if s, e := d.Read(6); s != numbered(x.kept) || e != api.OK {
			t.Errorf("Crash(%q) of %d: %q %v", x.keep, x.n, s, e)
		}
	}
}

// numbered gives contents that tell n; of 0, those of a new sector.
func numbered(n int) string {
	if n == 0 {
		return zero
	}
	return fmt.Sprintf("%064d", n)
}

// P3.4: what is durable, cached and loose; wrong sectors.
func TestSeen(t *testing.T) {
	d := newDev(t, 9)
	for _, i := range []int{9, -1, math.MaxInt, math.MinInt} {
		if s, e := d.Durable(i); s != "" || e != api.ErrArg || d.Cached(i) != 0 {
			t.Errorf("Durable(%d): %q %v; Cached: %d", i, s, e, d.Cached(i))
		}
	}
	write(t, d, 8, "a")
	write(t, d, 3, "bc")
	write(t, d, 0, "d")
	write(t, d, 5, "e")
	for _, x := range []struct {
		do    func() api.Errno
		loose []int
	}{
		{func() api.Errno { return d.Write(3, full("f")) }, []int{0, 3, 5, 8}},
		{func() api.Errno { return d.Back(5, 0) }, []int{0, 3, 5, 8}},
		{func() api.Errno { return d.Back(5, 1) }, []int{0, 3, 8}},
		{func() api.Errno { return d.Back(3, 2) }, []int{0, 3, 8}},
		{func() api.Errno { return d.Back(3, 1) }, []int{0, 8}},
		{func() api.Errno { return d.Write(1, zero) }, []int{0, 1, 8}},
		{func() api.Errno { return d.Crash("\x01\x00\x01") }, nil},
		{func() api.Errno { return d.Write(8, full("g")) }, []int{8}},
		{d.Flush, nil},
	} {
		if e := x.do(); e != api.OK {
			t.Error(e)
		}
		if l := d.Loose(); !slices.Equal(l, x.loose) {
			t.Errorf("Loose: %v, want %v", l, x.loose)
		}
	}
	is(t, d, 0, "d", "d", 0)
	is(t, d, 8, "g", "g", 0)
	if d.Writes() != 8 {
		t.Errorf("%d writes", d.Writes())
	}
}

// P3.4, R5: the row that Loose answers is its asker's.
func TestLooseIsNew(t *testing.T) {
	d := newDev(t, 8)
	write(t, d, 2, "a")
	write(t, d, 4, "b")
	l := d.Loose()
	l[0], l[1] = 7, 7
	if l := d.Loose(); !slices.Equal(l, []int{2, 4}) {
		t.Errorf("Loose: %v", l)
	}
}

// P3.4: writes that were refused are not counted, nor is what is no write.
func TestWrites(t *testing.T) {
	d := newDev(t, 8)
	d.Fuse(3)
	d.Write(8, full("x"))
	d.Write(0, "x")
	d.Read(0)
	write(t, d, 0, "ab")
	d.Back(0, 1)
	d.Flush()
	write(t, d, 1, "c")
	d.Write(1, full("x"))
	if d.Writes() != 3 {
		t.Errorf("%d writes", d.Writes())
	}
	d.Crash("\x01")
	if d.Writes() != 3 || d.Copy().Writes() != 3 {
		t.Errorf("%d writes after a crash", d.Writes())
	}
}

// same holds two devices against each other, in all that is to be seen of them.
func same(t *testing.T, d, c *Dev) {
	t.Helper()
	if d.Len() != c.Len() || d.Down() != c.Down() || d.Writes() != c.Writes() || !slices.Equal(d.Loose(), c.Loose()) {
		t.Errorf("%d %v %d %v, and %d %v %d %v", d.Len(), d.Down(), d.Writes(), d.Loose(), c.Len(), c.Down(), c.Writes(), c.Loose())
	}
	for i := range d.Len() {
		now, e := d.Read(i)
		now2, e2 := c.Read(i)
		kept, _ := d.Durable(i)
		kept2, _ := c.Durable(i)
		if now != now2 || e != e2 || kept != kept2 || d.Cached(i) != c.Cached(i) {
			t.Errorf("sector %d: %q %v %q %d, and %q %v %q %d", i, now, e, kept, d.Cached(i), now2, e2, kept2, c.Cached(i))
		}
	}
}

// busy gives a device with cached writes, some of them behind others that were written back, and a fuse of 2.
func busy(t *testing.T) *Dev {
	t.Helper()
	d := newDev(t, 8)
	write(t, d, 0, "a")
	write(t, d, 7, "b")
	d.Flush()
	write(t, d, 7, "cdefg")
	d.Back(7, 2)
	write(t, d, 3, "h")
	d.Fuse(2)
	return d
}

// P3.4: a copy is as its original is, and neither sees what is done to the other.
func TestCopy(t *testing.T) {
	changes := []func(d *Dev){
		func(d *Dev) { d.Write(7, full("x")) },
		func(d *Dev) { d.Write(0, full("x")); d.Write(3, full("y")) },
		func(d *Dev) { d.Back(7, 1) },
		func(d *Dev) { d.Back(7, 3) },
		func(d *Dev) { d.Flush() },
		func(d *Dev) { d.Fuse(0) },
		func(d *Dev) { d.Fuse(1) },
		func(d *Dev) { d.Crash("") },
		func(d *Dev) { d.Crash("\x01\x01") },
	}
	for _, change := range changes {
		d := busy(t)
		same(t, d, d.Copy())
		c := d.Copy()
		change(c)
		same(t, d, busy(t)) // the original is as it was
		write(t, d, 0, "p")
		write(t, d, 3, "q")
		if !d.Down() {
			t.Error("the original's fuse is another one")
		}

		d = busy(t)
		c = d.Copy()
		change(d)
		same(t, c, busy(t)) // the copy is as the original was
		write(t, c, 0, "p")
		write(t, c, 3, "q")
		if !c.Down() {
			t.Error("the copy's fuse is another one")
		}
		c.Crash("\x01\x02\x03")
		is(t, c, 0, "p", "p", 0)
		is(t, c, 3, "q", "q", 0)
		is(t, c, 7, "g", "g", 0)
	}
}

// P3.4: a copy and its original may both be written to, at a row that both have.
func TestCopyBothWritten(t *testing.T) {
	for n := range 9 {
		d := newDev(t, 8)
		for range n {
			write(t, d, 5, "a")
		}
		c := d.Copy()
		write(t, d, 5, "b")
		write(t, c, 5, "c")
		is(t, d, 5, "b", "\x00", n+1)
		is(t, c, 5, "c", "\x00", n+1)
		d.Flush()
		c.Flush()
		is(t, d, 5, "b", "b", 0)
		is(t, c, 5, "c", "c", 0)
	}
}

// P3.4: a copy of a device that has failed has failed, and works again after its own crash alone.
func TestCopyDown(t *testing.T) {
	d := busy(t)
	d.Fuse(0)
	c := d.Copy()
	same(t, d, c)
	if !c.Down() || c.Write(0, full("x")) != api.ErrDown {
		t.Error("the copy has not failed")
	}
	c.Crash("")
	if c.Down() || !d.Down() {
		t.Errorf("the copy: %v, the original: %v", c.Down(), d.Down())
	}
	is(t, c, 7, "d", "d", 0)
	d.Crash("\x01")
	is(t, d, 3, "h", "h", 0)
	is(t, c, 3, "\x00", "\x00", 0)
}

// R3: of no device there is nothing, and nothing can be done to it.
func TestNil(t *testing.T) {
	var d *Dev
	for _, i := range []int{0, -1} {
		if s, e := d.Read(i); s != "" || e != api.ErrNil {
			t.Errorf("Read: %q %v", s, e)
		}
		if s, e := d.Durable(i); s != "" || e != api.ErrNil {
			t.Errorf("Durable: %q %v", s, e)
		}
		for name, e := range map[string]api.Errno{"Write": d.Write(i, full("a")), "Write of a byte": d.Write(i, "a"), "Back": d.Back(i, i), "Flush": d.Flush(), "Fuse": d.Fuse(i), "Crash": d.Crash("a")} {
			if e != api.ErrNil {
				t.Errorf("%s: %v", name, e)
			}
		}
		if d.Cached(i) != 0 {
			t.Errorf("Cached: %d", d.Cached(i))
		}
	}
	if d.Len() != 0 || d.Down() || d.Loose() != nil || d.Writes() != 0 || d.Copy() != nil {
		t.Error("there is something of no device")
	}
}

// R1: whoever goes over the loose sectors may end within them.
func TestLooseEnds(t *testing.T) {
	d := busy(t)
	for i := range d.loose() {
		if i != 3 {
			t.Errorf("sector %d", i)
		}
		break
	}
}

// A plain device has for each sector all that it contained, the durable contents first.
type plain struct {
	sectors [][]string
	writes  uint64
	left    int // -1: no fuse
	down    bool
}

func newPlain(n int) *plain {
	p := &plain{left: -1}
	for range n {
		p.sectors = append(p.sectors, []string{zero})
	}
	return p
}

func (p *plain) write(i int, s string) api.Errno {
	if p.down {
		return api.ErrDown
	}
	p.sectors[i] = append(p.sectors[i], s)
	p.writes++
	if p.left > 0 {
		p.left--
		p.down = p.left == 0
	}
	return api.OK
}

func (p *plain) back(i, k int) api.Errno {
	if p.down {
		return api.ErrDown
	}
	if k >= len(p.sectors[i]) {
		return api.ErrArg
	}
	p.sectors[i] = p.sectors[i][k:]
	return api.OK
}

func (p *plain) flush() api.Errno {
	for i := range p.sectors {
		if e := p.back(i, len(p.sectors[i])-1); e != api.OK {
			return e
		}
	}
	return api.OK
}

func (p *plain) fuse(n int) api.Errno {
	p.left = n
	p.down = p.down || n == 0
	return api.OK
}

func (p *plain) crash(keep string) api.Errno {
	for i, l := range p.sectors {
		if len(l) == 1 {
			continue
		}
		k := 0
		if keep != "" {
			k, keep = int(keep[0])%len(l), keep[1:]
		}
		p.sectors[i] = l[k : k+1 : k+1]
	}
	p.left, p.down = -1, false
	return api.OK
}

// holds holds a device against the plain one.
func (p *plain) holds(t *testing.T, d *Dev) {
	t.Helper()
	var loose []int
	for i, l := range p.sectors {
		if len(l) > 1 {
			loose = append(loose, i)
		}
		if s, e := d.Durable(i); s != l[0] || e != api.OK || d.Cached(i) != len(l)-1 {
			t.Errorf("sector %d: %q %v, %d cached, want %q, %d", i, s, e, d.Cached(i), l[0], len(l)-1)
		}
		s, e := d.Read(i)
		if p.down && (s != "" || e != api.ErrDown) || !p.down && (s != l[len(l)-1] || e != api.OK) {
			t.Errorf("sector %d: %q %v, want %q", i, s, e, l[len(l)-1])
		}
	}
	if d.Down() != p.down || d.Writes() != p.writes || !slices.Equal(d.Loose(), loose) {
		t.Errorf("%v, %d writes, %v, want %v, %d, %v", d.Down(), d.Writes(), d.Loose(), p.down, p.writes, loose)
	}
}

// P3.1 to P3.4: whatever is done, in whatever order: a device is as a plain one.
func TestPlain(t *testing.T) {
	for seed := range 40 {
		x := uint32(seed)
		next := func(n int) int {
			x = x*1664525 + 1013904223
			return int(x>>16) % n
		}
		n := 8 + next(5)
		d, p := newDev(t, n), newPlain(n)
		for step := range 250 {
			i, k := next(n), next(4)
			var got, want api.Errno
			switch do := next(40); {
			case do < 24:
				s := numbered(step + 1)
				got, want = d.Write(i, s), p.write(i, s)
			case do < 32:
				got, want = d.Back(i, k), p.back(i, k)
			case do < 34:
				got, want = d.Flush(), p.flush()
			case do < 36:
				got, want = d.Fuse(3*k), p.fuse(3*k)
			case do < 38:
				d = d.Copy()
			default:
				b := make([]byte, next(n))
				for k := range b {
					b[k] = byte(next(256))
				}
				got, want = d.Crash(string(b)), p.crash(string(b))
			}
			if got != want {
				t.Errorf("seed %d, step %d: %v, want %v", seed, step, got, want)
			}
			p.holds(t, d)
			if t.Failed() {
				return
			}
		}
	}
}

// P3.5: what was written is read until it is overwritten, whatever leaves the cache meanwhile.
func TestReadUntilOverwritten(t *testing.T) {
	d := newDev(t, 8)
	write(t, d, 4, "ab")
	for _, do := range []func() api.Errno{
		func() api.Errno { return d.Write(3, full("x")) },
		func() api.Errno { return d.Back(4, 1) },
		func() api.Errno { return d.Back(3, 1) },
		func() api.Errno { return d.Back(4, 1) },
		func() api.Errno { return d.Write(5, full("y")) },
		d.Flush,
		func() api.Errno { return d.Fuse(9) },
		d.Flush,
	} {
		if e := do(); e != api.OK {
			t.Error(e)
		}
		if s, e := d.Read(4); s != full("b") || e != api.OK {
			t.Errorf("Read(4): %q %v", s, e)
		}
	}
	write(t, d, 4, "c")
	is(t, d, 4, "c", "b", 1)
}

// P3.5: after any crash a sector has what was durable, or a cached write of its own; one without cached writes is as it was.
func TestAfterCrash(t *testing.T) {
	seen := map[string]bool{}
	for a := range 256 {
		for _, b := range []int{0, 1, 2, 255} {
			d := busy(t)
			d.Crash(string([]byte{byte(a), byte(b)}))
			for i := range 8 {
				s, e := d.Read(i)
				may := map[int]string{0: "a", 3: "\x00h", 7: "defg"}[i]
				if may == "" {
					may = "\x00"
				}
				if e != api.OK || !strings.Contains(may, s[:1]) || s != full(s[:1]) {
					t.Errorf("crash of %d, %d: sector %d: %q %v", a, b, i, s, e)
				}
				if kept, e := d.Durable(i); kept != s || e != api.OK {
					t.Errorf("crash of %d, %d: sector %d: %q is durable, %q is read", a, b, i, kept, s)
				}
				seen[s[:1]] = true
			}
		}
	}
	for _, c := range "\x00ahdefg" {
		if !seen[string(c)] {
			t.Errorf("%q is never kept", c)
		}
	}
}
