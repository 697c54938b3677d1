package bits

import (
	"math"
	"slices"
	"strings"
	"testing"

	"lunette/api"
)

// vector gives the bits of s, each byte halved till nothing is left: what the package is held against.
func vector(s string) []bool {
	var v []bool
	for _, b := range []byte(s) {
		for range 8 {
			v = append(v, b%2 == 1)
			b /= 2
		}
	}
	return v
}

// text gives the bytes that have the bits v, each bit as what it is worth.
func text(v []bool) string {
	worth := []byte{1, 2, 4, 8, 16, 32, 64, 128}
	b := make([]byte, len(v)/8)
	for i, on := range v {
		if on {
			b[i/8] += worth[i%8]
		}
	}
	return string(b)
}

// least gives the least bit below n that is as on says, as the vector has it.
func least(v []bool, n int, on bool) (int, bool) {
	for i := 0; i < n && i < len(v); i++ {
		if v[i] == on {
			return i, true
		}
	}
	return 0, false
}

// set gives how many bits from m up to n are set, as the vector has it.
func set(v []bool, m, n int) int {
	k := 0
	for i := max(m, 0); i < n && i < len(v); i++ {
		if v[i] {
			k++
		}
	}
	return k
}

// lone gives texts of n bytes of which one bit alone is otherwise than the others: each bit, on and off.
func lone(n int) []string {
	var l []string
	for i := range 8 * n {
		for _, on := range []bool{true, false} {
			v := vector(all(n, !on))
			v[i] = on
			l = append(l, text(v))
		}
	}
	return l
}

// all gives a text of n bytes whose bits are all as on says.
func all(n int, on bool) string {
	if on {
		return strings.Repeat("\xff", n)
	}
	return strings.Repeat("\x00", n)
}

// mixed gives a text of n bytes whose bits are set here and there.
func mixed(n int) string {
	b := make([]byte, n)
	for i := range b {
		b[i] = byte(i*i*37 + i*11 + n)
	}
	return string(b)
}

// texts gives short ones of many kinds, the empty one among them.
func texts() []string {
	l := []string{"", "\x01", "\x80", "\x07", "\x55", "\xaa", "\x00\x02", "\xff\x01", "\x81\x01\x81", "\x01\x80", "\x80\x01", "é"}
	for n := 1; n <= 4; n++ {
		l = append(l, all(n, true), all(n, false), mixed(n))
	}
	l = append(l, lone(1)...)
	return append(l, lone(3)...)
}

// wrongBits gives numbers of which s has no bit: the nearest, and the farthest.
func wrongBits(s string) []int {
	n := 8 * len(s)
	return []int{-1, -2, -8, -9, -n, -n - 1, math.MinInt, math.MinInt + 1, n, n + 1, n + 7, n + 8, 8*n + 8, 1<<32 + n, math.MaxInt / 8, math.MaxInt - 1, math.MaxInt}
}

// The tests' own vectors are what the chapter's definition says.
func TestVector(t *testing.T) {
	want := []bool{true, false, false, false, false, false, false, true, false, true, false, false, false, false, false, false}
	if v := vector("\x81\x02"); !slices.Equal(v, want) {
		t.Errorf("%v", v)
	}
	for _, s := range texts() {
		if back := text(vector(s)); back != s {
			t.Errorf("%q: %q", s, back)
		}
	}
}

// P6.1: whether a bit is set, the least significant one of a byte first.
func TestGet(t *testing.T) {
	for _, x := range []struct {
		s  string
		i  int
		on bool
		e  api.Errno
	}{
		{"\x00\x02", 9, true, api.OK},
		{"\x00\x02", 8, false, api.OK},
		{"\x00\x02", 10, false, api.OK},
		{"\x00\x02", 1, false, api.OK},
		{"\x01", 0, true, api.OK},
		{"\x01", 7, false, api.OK},
		{"\x80", 7, true, api.OK},
		{"\x80", 0, false, api.OK},
		{"\xfe", 0, false, api.OK},
		{"\x7f", 7, false, api.OK},
		{"\x00\x01", 8, true, api.OK},
		{"\x80\x00", 8, false, api.OK},
		{"\x80\x00", 7, true, api.OK},
		{"\x00\x01", 7, false, api.OK},
		{"\x00\x80", 15, true, api.OK},
		{"\xff\x7f", 15, false, api.OK},
		{"\xff", 8, false, api.ErrArg},
		{"\xff\xff", 16, false, api.ErrArg},
		{"\xff", -1, false, api.ErrArg},
		{"\xff", -8, false, api.ErrArg},
		{"", 0, false, api.ErrArg},
		{"", -1, false, api.ErrArg},
		{"", 1, false, api.ErrArg},
		{"\xff", math.MaxInt, false, api.ErrArg},
		{"\xff", math.MinInt, false, api.ErrArg},
		{"", math.MaxInt, false, api.ErrArg},
		{"", math.MinInt, false, api.ErrArg},
	} {
		if on, e := Get(x.s, x.i); on != x.on || e != x.e {
			t.Errorf("Get(%q, %d): %v %v, want %v %v", x.s, x.i, on, e, x.on, x.e)
		}
	}
}

// P6.1: every bit of every text is told, and no other one.
func TestGetAll(t *testing.T) {
	for _, s := range append(texts(), mixed(64), mixed(1000)) {
		for i, want := range vector(s) {
			if on, e := Get(s, i); on != want || e != api.OK {
				t.Errorf("Get(%q, %d): %v %v", s, i, on, e)
			}
		}
		for _, i := range wrongBits(s) {
			if on, e := Get(s, i); on || e != api.ErrArg {
				t.Errorf("Get(%q, %d): %v %v", s, i, on, e)
			}
		}
	}
}

// P6.1: a text with one bit set, or cleared.
func TestSet(t *testing.T) {
	for _, x := range []struct {
		s   string
		i   int
		on  bool
		out string
		e   api.Errno
	}{
		{"\x00\x00", 9, true, "\x00\x02", api.OK},
		{"\x00\x00", 0, true, "\x01\x00", api.OK},
		{"\x00\x00", 7, true, "\x80\x00", api.OK},
		{"\x00\x00", 8, true, "\x00\x01", api.OK},
		{"\x00\x00", 15, true, "\x00\x80", api.OK},
		{"\xff\xff", 0, false, "\xfe\xff", api.OK},
		{"\xff\xff", 7, false, "\x7f\xff", api.OK},
		{"\xff\xff", 8, false, "\xff\xfe", api.OK},
		{"\xff\xff", 15, false, "\xff\x7f", api.OK},
		{"\x00\x02", 9, true, "\x00\x02", api.OK},
		{"\x00\x02", 8, false, "\x00\x02", api.OK},
		{"\x00\x02", 9, false, "\x00\x00", api.OK},
		{"\xff", 3, true, "\xff", api.OK},
		{"\x00", 3, false, "\x00", api.OK},
		{"\x00", 8, true, "", api.ErrArg},
		{"\xff", 8, false, "", api.ErrArg},
		{"\x00", -1, true, "", api.ErrArg},
		{"\xff", -1, false, "", api.ErrArg},
		{"", 0, true, "", api.ErrArg},
		{"", 0, false, "", api.ErrArg},
		{"", -1, true, "", api.ErrArg},
		{"ab", math.MaxInt, true, "", api.ErrArg},
		{"ab", math.MinInt, true, "", api.ErrArg},
		{"ab", math.MaxInt, false, "", api.ErrArg},
		{"ab", math.MinInt, false, "", api.ErrArg},
	} {
		if out, e := Set(x.s, x.i, x.on); out != x.out || e != x.e {
			t.Errorf("Set(%q, %d, %v): %q %v, want %q %v", x.s, x.i, x.on, out, e, x.out, x.e)
		}
	}
}

// P6.1: every bit of every text is set, and cleared, and no other one.
func TestSetAll(t *testing.T) {
	for _, s := range append(texts(), mixed(64)) {
		for _, on := range []bool{true, false} {
			for i := range vector(s) {
				v := vector(s)
				v[i] = on
				if out, e := Set(s, i, on); out != text(v) || e != api.OK {
					t.Errorf("Set(%q, %d, %v): %q %v, want %q", s, i, on, out, e, text(v))
				}
			}
			for _, i := range wrongBits(s) {
				if out, e := Set(s, i, on); out != "" || e != api.ErrArg {
					t.Errorf("Set(%q, %d, %v): %q %v", s, i, on, out, e)
				}
			}
		}
	}
}

// P6.1: a text with bits in a row set, or cleared.
func TestFill(t *testing.T) {
	for _, x := range []struct {
		s        string
		from, to int
		on       bool
		out      string
		e        api.Errno
	}{
		{"\x81\x01\x81", 0, 0, true, "\x81\x01\x81", api.OK},
		{"\x81\x01\x81", 5, 5, true, "\x81\x01\x81", api.OK},
		{"\x81\x01\x81", 8, 8, false, "\x81\x01\x81", api.OK},
		{"\x81\x01\x81", 24, 24, true, "\x81\x01\x81", api.OK},
		{"\x81\x01\x81", 24, 24, false, "\x81\x01\x81", api.OK},
		{"\x81\x01\x81", 0, 24, true, "\xff\xff\xff", api.OK},
		{"\x81\x01\x81", 0, 24, false, "\x00\x00\x00", api.OK},
		{"\x81\x01\x81", 7, 9, false, "\x01\x00\x81", api.OK},
		{"\x00\x00\x00", 7, 9, true, "\x80\x01\x00", api.OK},
		{"\x00\x00\x00", 2, 5, true, "\x1c\x00\x00", api.OK},
		{"\xff\xff\xff", 2, 5, false, "\xe3\xff\xff", api.OK},
		{"\x00\x00\x00", 0, 1, true, "\x01\x00\x00", api.OK},
		{"\x00\x00\x00", 0, 8, true, "\xff\x00\x00", api.OK},
		{"\x00\x00\x00", 8, 16, true, "\x00\xff\x00", api.OK},
		{"\xff\xff\xff", 8, 16, false, "\xff\x00\xff", api.OK},
		{"\x00\x00\x00", 4, 20, true, "\xf0\xff\x0f", api.OK},
		{"\xff\xff\xff", 4, 20, false, "\x0f\x00\xf0", api.OK},
		{"\x00\x00\x00", 4, 16, true, "\xf0\xff\x00", api.OK},
		{"\x00\x00\x00", 8, 20, true, "\x00\xff\x0f", api.OK},
		{"\x00\x00\x00", 23, 24, true, "\x00\x00\x80", api.OK},
		{"\xff\xff\xff", 23, 24, false, "\xff\xff\x7f", api.OK},
		{"\xff\xff\xff", 3, 21, true, "\xff\xff\xff", api.OK},
		{"\x00\x00\x00", 3, 21, false, "\x00\x00\x00", api.OK},
		{"", 0, 0, true, "", api.OK},
		{"", 0, 0, false, "", api.OK},
		{"", 0, 1, true, "", api.ErrArg},
		{"", 1, 1, true, "", api.ErrArg},
		{"", -1, 0, true, "", api.ErrArg},
		{"", -1, -1, true, "", api.ErrArg},
		{"ab", -1, 4, true, "", api.ErrArg},
		{"ab", -1, -1, false, "", api.ErrArg},
		{"ab", 5, 4, true, "", api.ErrArg},
		{"ab", 1, 0, false, "", api.ErrArg},
		{"ab", 5, 17, true, "", api.ErrArg},
		{"ab", 0, 17, false, "", api.ErrArg},
		{"ab", 16, 17, true, "", api.ErrArg},
		{"ab", 17, 17, true, "", api.ErrArg},
		{"ab", 17, 16, true, "", api.ErrArg},
		{"ab", 0, math.MaxInt, true, "", api.ErrArg},
		{"ab", math.MaxInt, math.MaxInt, true, "", api.ErrArg},
		{"ab", math.MinInt, 4, true, "", api.ErrArg},
		{"ab", math.MinInt, math.MinInt, true, "", api.ErrArg},
		{"ab", math.MinInt, math.MaxInt, true, "", api.ErrArg},
		{"ab", math.MaxInt, math.MinInt, true, "", api.ErrArg},
		{"ab", 0, math.MinInt, true, "", api.ErrArg},
		{"ab", 4, -1, true, "", api.ErrArg},
	} {
		if out, e := Fill(x.s, x.from, x.to, x.on); out != x.out || e != x.e {
			t.Errorf("Fill(%q, %d, %d, %v): %q %v, want %q %v", x.s, x.from, x.to, x.on, out, e, x.out, x.e)
		}
	}
}

// checkFill holds one filling against the bits, taken one by one.
func checkFill(t *testing.T, s string, from, to int, on bool) {
	t.Helper()
	v, want, e := vector(s), "", api.ErrArg
	if 0 <= from && from <= to && to <= len(v) {
		for i := from; i < to; i++ {
			v[i] = on
		}
		want, e = text(v), api.OK
	}
	if out, f := Fill(s, from, to, on); out != want || f != e {
		t.Errorf("Fill(%q, %d, %d, %v): %q %v, want %q %v", s, from, to, on, out, f, want, e)
	}
}

// P6.1: from every bit to every bit, those outside the text among them.
func TestFillAll(t *testing.T) {
	for _, s := range texts() {
		n := 8 * len(s)
		for from := -2; from <= n+2; from++ {
			for to := -2; to <= n+2; to++ {
				checkFill(t, s, from, to, true)
				checkFill(t, s, from, to, false)
			}
		}
		for _, i := range wrongBits(s) {
			for _, k := range append(wrongBits(s), 0, n/2, n) {
				checkFill(t, s, i, k, true)
				checkFill(t, s, k, i, false)
			}
		}
	}
}

// P6.1: a long text.
func TestFillLong(t *testing.T) {
	s := mixed(8192)
	for _, x := range [][2]int{{0, 65536}, {1, 65535}, {3, 3}, {7, 8}, {100, 60001}, {65535, 65536}, {0, 65537}, {65537, 65537}} {
		checkFill(t, s, x[0], x[1], true)
		checkFill(t, s, x[0], x[1], false)
	}
}

// P6.2: the least bit below a number that is set, or clear.
func TestLeast(t *testing.T) {
	for _, x := range []struct {
		s  string
		n  int
		on bool
		i  int
		is bool
	}{
		{"\x07", 8, false, 3, true},
		{"\x07", 4, false, 3, true},
		{"\x07", 3, false, 0, false},
		{"\x07", 8, true, 0, true},
		{"\x07", 1, true, 0, true},
		{"\xff", 20, false, 0, false},
		{"\xff", 8, false, 0, false},
		{"\xff", 20, true, 0, true},
		{"\x00", 20, true, 0, false},
		{"\x00", 20, false, 0, true},
		{"\x00", 8, true, 0, false},
		{"\xff\xff\xff", 24, false, 0, false},
		{"\x00\x00\x00", 24, true, 0, false},
		{"\x00\x04", 10, true, 0, false},
		{"\x00\x04", 11, true, 10, true},
		{"\x00\x04", math.MaxInt, true, 10, true},
		{"\xff\xfb", 10, false, 0, false},
		{"\xff\xfb", 11, false, 10, true},
		{"\x80", 7, true, 0, false},
		{"\x80", 8, true, 7, true},
		{"\x00\x01", 8, true, 0, false},
		{"\x00\x01", 9, true, 8, true},
		{"\x00\x80", 15, true, 0, false},
		{"\x00\x80", 16, true, 15, true},
		{"\x00\x80", 17, true, 15, true},
		{"\xff\x7f", 16, false, 15, true},
		{"\x82", 8, true, 1, true},
		{"\xff\xff", 0, true, 0, false},
		{"\x00\x00", 0, false, 0, false},
		{"\xff\xff", -1, true, 0, false},
		{"\x00\x00", -1, false, 0, false},
		{"\xff", math.MinInt, true, 0, false},
		{"\x00", math.MinInt, false, 0, false},
		{"", 0, true, 0, false},
		{"", 0, false, 0, false},
		{"", 1, false, 0, false},
		{"", 8, true, 0, false},
		{"", -1, false, 0, false},
		{"", math.MaxInt, false, 0, false},
		{"", math.MaxInt, true, 0, false},
	} {
		if i, is := Least(x.s, x.n, x.on); i != x.i || is != x.is {
			t.Errorf("Least(%q, %d, %v): %d %v, want %d %v", x.s, x.n, x.on, i, is, x.i, x.is)
		}
	}
}

// limits gives numbers up to which bits of s are asked for: all from below 0 to above those that it has, and the farthest.
func limits(s string) []int {
	l := []int{math.MinInt, math.MinInt + 1, -1 << 32, 1 << 32, math.MaxInt - 1, math.MaxInt}
	for n := -9; n <= 8*len(s)+17; n++ {
		l = append(l, n)
	}
	return l
}

// P6.2: the least one below every number, of every text.
func TestLeastAll(t *testing.T) {
	for _, s := range append(texts(), mixed(64), all(64, true), all(64, false), all(63, true)+"\x7f", all(63, false)+"\x80") {
		v := vector(s)
		for _, n := range limits(s) {
			for _, on := range []bool{true, false} {
				want, there := least(v, n, on)
				if i, is := Least(s, n, on); i != want || is != there {
					t.Errorf("Least(%q, %d, %v): %d %v, want %d %v", s, n, on, i, is, want, there)
				}
			}
		}
	}
}

// P6.2: how many bits below a number are set.
func TestCount(t *testing.T) {
	for _, x := range []struct {
		s       string
		n, many int
	}{
		{"\xff\x01", 9, 9},
		{"\xff\x01", 8, 8},
		{"\xff\x01", 7, 7},
		{"\xff\x01", 16, 9},
		{"\xff\x01", 17, 9},
		{"\xff\x01", math.MaxInt, 9},
		{"\xff\x01", 1, 1},
		{"\xff\x01", 0, 0},
		{"\xff\x01", -1, 0},
		{"\xff\x01", math.MinInt, 0},
		{"\x81\x01\x81", 8, 2},
		{"\x81\x01\x81", 17, 4},
		{"\x81\x01\x81", 23, 4},
		{"\x81\x01\x81", 24, 5},
		{"\x81\x01\x81", 99, 5},
		{"\x00\x80", 15, 0},
		{"\x00\x80", 16, 1},
		{"\xfe", 1, 0},
		{"\xfe", 8, 7},
		{"\x00\x00", 16, 0},
		{"\xff\xff", 16, 16},
		{"", 0, 0},
		{"", 1, 0},
		{"", 8, 0},
		{"", -1, 0},
		{"", math.MaxInt, 0},
		{"", math.MinInt, 0},
	} {
		if many := Count(x.s, x.n); many != x.many {
			t.Errorf("Count(%q, %d): %d, want %d", x.s, x.n, many, x.many)
		}
	}
}

// P6.2: how many are set below every number, of every text.
func TestCountAll(t *testing.T) {
	for _, s := range append(texts(), mixed(64), all(64, true), all(64, false)) {
		v := vector(s)
		for _, n := range limits(s) {
			if many := Count(s, n); many != set(v, 0, n) {
				t.Errorf("Count(%q, %d): %d, want %d", s, n, many, set(v, 0, n))
			}
		}
	}
}

// P6.2: a text with as many bytes as the bits need, all clear.
func TestMake(t *testing.T) {
	for n, size := range map[int]int{0: 0, 1: 1, 2: 1, 7: 1, 8: 1, 9: 2, 15: 2, 16: 2, 17: 3, 512: 64, 513: 65, 65528: 8191, 65529: 8192, 65535: 8192, 65536: 8192} {
		if s, e := Make(n); s != all(size, false) || e != api.OK {
			t.Errorf("Make(%d): %d bytes, %v, want %d", n, len(s), e, size)
		}
	}
	for _, n := range []int{-1, -7, -8, -9, math.MinInt, math.MinInt + 1, 65537, 65544, 1 << 17, 1 << 32, 1<<32 + 8, math.MaxInt - 7, math.MaxInt} {
		if s, e := Make(n); s != "" || e != api.ErrArg {
			t.Errorf("Make(%d): %d bytes, %v", n, len(s), e)
		}
	}
}

// P6.2: of what is made, the bits that were asked for exist, less than eight more do, and none is set.
func TestMakeAll(t *testing.T) {
	for n := range 65537 {
		s, e := Make(n)
		if spare := 8*len(s) - n; e != api.OK || spare < 0 || spare > 7 || strings.Trim(s, "\x00") != "" {
			t.Errorf("Make(%d): %d bytes, %v", n, len(s), e)
		}
	}
}

// twice gives s with the bit i set, or cleared, and what it is if that is done again.
func twice(t *testing.T, s string, i int, on bool) (once, again string) {
	t.Helper()
	once, e := Set(s, i, on)
	if e != api.OK {
		t.Errorf("Set(%q, %d, %v): %v", s, i, on, e)
	}
	again, e = Set(once, i, on)
	if e != api.OK {
		t.Errorf("Set(%q, %d, %v): %v", once, i, on, e)
	}
	return once, again
}

// P6.3: a bit that is set is told to be as it was set, and every other one to be as it was.
func TestSetChangesNoOther(t *testing.T) {
	for _, s := range append(texts(), mixed(20)) {
		for i := range 8 * len(s) {
			for _, on := range []bool{true, false} {
				out, _ := Set(s, i, on)
				if len(out) != len(s) {
					t.Fatalf("Set(%q, %d, %v): %q", s, i, on, out)
				}
				for k := range 8 * len(s) {
					want, _ := Get(s, k)
					if k == i {
						want = on
					}
					if now, e := Get(out, k); now != want || e != api.OK {
						t.Errorf("Set(%q, %d, %v): the bit %d is %v, %v", s, i, on, k, now, e)
					}
				}
			}
		}
	}
}

// P6.3: what is set twice is as what was set once; what is set back is as it was.
func TestSetTwiceAndBack(t *testing.T) {
	for _, s := range append(texts(), mixed(64)) {
		for i := range 8 * len(s) {
			was, _ := Get(s, i)
			for _, on := range []bool{true, false} {
				once, again := twice(t, s, i, on)
				if once != again || (once == s) != (was == on) {
					t.Errorf("the bit %d of %q set to %v: %q, again: %q", i, s, on, once, again)
				}
				if back, e := Set(once, i, was); back != s || e != api.OK {
					t.Errorf("the bit %d of %q set to %v, and back: %q %v", i, s, on, back, e)
				}
			}
		}
	}
}

// P6.3: below n there are as many as below m, and from m up to n.
func TestCountAdds(t *testing.T) {
	for _, s := range append(texts(), mixed(12)) {
		bits := 8 * len(s)
		for m := -2; m <= bits+2; m++ {
			between := 0
			for n := m; n <= bits+2; n++ {
				if many := Count(s, n); many != Count(s, m)+between {
					t.Errorf("Count(%q, %d): %d, but %d below %d and %d from there on", s, n, many, Count(s, m), m, between)
				}
				// The bit n is between m and n + 1.
				if on, e := Get(s, n); on && e == api.OK {
					between++
				}
			}
		}
	}
}

// P6.3: the bits of a row that is filled are as many as it is long, and those outside it are as many as they were.
func TestCountFilled(t *testing.T) {
	for _, s := range append(texts(), mixed(12)) {
		v := vector(s)
		for from := range len(v) + 1 {
			for to := from; to <= len(v); to++ {
				outside := set(v, 0, from) + set(v, to, len(v))
				full, e := Fill(s, from, to, true)
				if many := Count(full, len(v)); many != outside+to-from || e != api.OK {
					t.Errorf("Fill(%q, %d, %d, true): %d set, %v", s, from, to, many, e)
				}
				none, e := Fill(s, from, to, false)
				if many := Count(none, len(v)); many != outside || e != api.OK {
					t.Errorf("Fill(%q, %d, %d, false): %d set, %v", s, from, to, many, e)
				}
			}
		}
	}
}

// P6.3: all bits of what Make gives can be taken one by one, each time the least one that is clear, till none is left.
func TestTakeAll(t *testing.T) {
	for _, n := range []int{0, 1, 7, 8, 9, 100} {
		s, _ := Make(n)
		for k := range n {
			i, is := Least(s, n, false)
			if i != k || !is || Count(s, n) != k {
				t.Fatalf("of %d bits, %d taken: %d %v", n, k, i, is)
			}
			s, _ = Set(s, i, true)
		}
		if i, is := Least(s, n, false); i != 0 || is || Count(s, n) != n {
			t.Errorf("of %d bits, all taken: %d %v", n, i, is)
		}
	}
}
