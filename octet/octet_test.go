package octet

import (
	"math"
	"slices"
	"strings"
	"testing"

	"lunette/api"
)

const most = math.MaxUint64

// texts gives texts of many lengths, with bytes 0 at many places.
func texts() []string {
	l := []string{"", "\x00", "a", "a\x00", "\x00a", "\x00\x00\x00", "\x00a\x00\x00b\x00\x00", "\xff\x80\x00", "é€"}
	for _, n := range []int{7, 8, 9, 31, 64, 254, 255, 256, 257, 1000} {
		b := make([]byte, n)
		for i := range b {
			b[i] = byte(i*i + n)
		}
		l = append(l, string(b), strings.Repeat("\x00", n), string(b)+"\x00\x00")
	}
	return l
}

// P1.1: the bytes of a number, the least significant first.
func TestNum(t *testing.T) {
	for _, x := range []struct {
		v uint64
		n int
		s string
		e api.Errno
	}{
		{258, 2, "\x02\x01", api.OK},
		{258, 3, "\x02\x01\x00", api.OK},
		{0x0102030405060708, 8, "\x08\x07\x06\x05\x04\x03\x02\x01", api.OK},
		{0, 0, "", api.OK},
		{0, 1, "\x00", api.OK},
		{0, 8, "\x00\x00\x00\x00\x00\x00\x00\x00", api.OK},
		{most, 8, "\xff\xff\xff\xff\xff\xff\xff\xff", api.OK},
		{1 << 63, 8, "\x00\x00\x00\x00\x00\x00\x00\x80", api.OK},
		{1, 0, "", api.ErrArg},
		{most, 0, "", api.ErrArg},
		{256, 1, "", api.ErrArg},
		{most, 7, "", api.ErrArg},
		{0, 9, "", api.ErrArg},
		{5, 9, "", api.ErrArg},
		{0, -1, "", api.ErrArg},
		{5, -1, "", api.ErrArg},
		{0, math.MaxInt, "", api.ErrArg},
		{0, math.MinInt, "", api.ErrArg},
	} {
		if s, e := Num(x.v, x.n); s != x.s || e != x.e {
			t.Errorf("Num(%d, %d): %q %v, want %q %v", x.v, x.n, s, e, x.s, x.e)
		}
	}
}

// P1.1: the greatest number of each length is taken, and one more is not.
func TestNumEdges(t *testing.T) {
	for n := range 8 {
		top := uint64(1)<<(8*n) - 1
		if s, e := Num(top, n); s != strings.Repeat("\xff", n) || e != api.OK {
			t.Errorf("Num(%d, %d): %q %v", top, n, s, e)
		}
		if s, e := Num(top+1, n); s != "" || e != api.ErrArg {
			t.Errorf("Num(%d, %d): %q %v", top+1, n, s, e)
		}
	}
}

// P1.1: the number whose bytes a text is.
func TestGet(t *testing.T) {
	for _, x := range []struct {
		s string
		v uint64
		e api.Errno
	}{
		{"", 0, api.OK},
		{"\x02\x01", 258, api.OK},
		{"\x00", 0, api.OK},
		{"\xff", 255, api.OK},
		{"\x00\x00\x01", 65536, api.OK},
		{"\x08\x07\x06\x05\x04\x03\x02\x01", 0x0102030405060708, api.OK},
		{"\xff\xff\xff\xff\xff\xff\xff\xff", most, api.OK},
		{"123456789", 0, api.ErrLong},
		{"\x00\x00\x00\x00\x00\x00\x00\x00\x00", 0, api.ErrLong},
		{strings.Repeat("x", 1000), 0, api.ErrLong},
	} {
		if v, e := Get(x.s); v != x.v || e != x.e {
			t.Errorf("Get(%q): %d %v, want %d %v", x.s, v, e, x.v, x.e)
		}
	}
}

// P1.2: the first bytes of a text, and the rest.
func TestCut(t *testing.T) {
	for _, x := range []struct {
		s           string
		n           int
		front, rest string
		e           api.Errno
	}{
		{"abc", 0, "", "abc", api.OK},
		{"abc", 1, "a", "bc", api.OK},
		{"abc", 3, "abc", "", api.OK},
		{"", 0, "", "", api.OK},
		{"\x00\xff", 1, "\x00", "\xff", api.OK},
		{"abc", 4, "", "", api.ErrEnd},
		{"", 1, "", "", api.ErrEnd},
		{"abc", math.MaxInt, "", "", api.ErrEnd},
		{"abc", -1, "", "", api.ErrArg},
		{"", -1, "", "", api.ErrArg},
		{"abc", math.MinInt, "", "", api.ErrArg},
	} {
		if front, rest, e := Cut(x.s, x.n); front != x.front || rest != x.rest || e != x.e {
			t.Errorf("Cut(%q, %d): %q %q %v, want %q %q %v", x.s, x.n, front, rest, e, x.front, x.rest, x.e)
		}
	}
}

// P1.2: a text in parts, of which the last one may be shorter.
func TestSplit(t *testing.T) {
	for _, x := range []struct {
		s string
		n int
		l []string
		e api.Errno
	}{
		{"abcde", 2, []string{"ab", "cd", "e"}, api.OK},
		{"abcd", 2, []string{"ab", "cd"}, api.OK},
		{"abc", 1, []string{"a", "b", "c"}, api.OK},
		{"abc", 3, []string{"abc"}, api.OK},
		{"abc", 4, []string{"abc"}, api.OK},
		{"abc", math.MaxInt, []string{"abc"}, api.OK},
		{"\x00\x00\x00", 2, []string{"\x00\x00", "\x00"}, api.OK},
		{"", 1, nil, api.OK},
		{"", math.MaxInt, nil, api.OK},
		{"abc", 0, nil, api.ErrArg},
		{"", 0, nil, api.ErrArg},
		{"abc", -1, nil, api.ErrArg},
		{"abc", math.MinInt, nil, api.ErrArg},
	} {
		if l, e := Split(x.s, x.n); !slices.Equal(l, x.l) || e != x.e {
			t.Errorf("Split(%q, %d): %q %v, want %q %v", x.s, x.n, l, e, x.l, x.e)
		}
	}
}

// R5: the list that Split gives is the caller's own.
func TestSplitIsNew(t *testing.T) {
	l, _ := Split("abcd", 2)
	l[0] = "xx"
	if again, _ := Split("abcd", 2); !slices.Equal(again, []string{"ab", "cd"}) {
		t.Errorf("%q", again)
	}
}

// P1.3: a text with its length ahead.
func TestText8(t *testing.T) {
	long := strings.Repeat("x", 256)
	for _, x := range []struct {
		s, out string
		e      api.Errno
	}{
		{"", "\x00", api.OK},
		{"ab", "\x02ab", api.OK},
		{"\x00", "\x01\x00", api.OK},
		{"é", "\x02é", api.OK},
		{long[:8], "\x08" + long[:8], api.OK},
		{long[:9], "\x09" + long[:9], api.OK},
		{long[:255], "\xff" + long[:255], api.OK},
		{long, "", api.ErrLong},
		{long + long, "", api.ErrLong},
	} {
		if out, e := Text8(x.s); out != x.out || e != x.e {
			t.Errorf("Text8 of %d bytes: %q %v, want %q %v", len(x.s), out, e, x.out, x.e)
		}
	}
}

// P1.3: the text that is ahead, and what follows it.
func TestRead8(t *testing.T) {
	long := strings.Repeat("x", 256)
	for _, x := range []struct {
		s, text, rest string
		e             api.Errno
	}{
		{"\x00", "", "", api.OK},
		{"\x00abc", "", "abc", api.OK},
		{"\x02abc", "ab", "c", api.OK},
		{"\x02ab", "ab", "", api.OK},
		{"\x01\x00\x00", "\x00", "\x00", api.OK},
		{"\xff" + long, long[:255], "x", api.OK},
		{"\xff" + long[:255], long[:255], "", api.OK},
		{"\xff" + long[:254], "", "", api.ErrEnd},
		{"", "", "", api.ErrEnd},
		{"\x01", "", "", api.ErrEnd},
		{"\x03ab", "", "", api.ErrEnd},
		{"\xff", "", "", api.ErrEnd},
	} {
		if text, rest, e := Read8(x.s); text != x.text || rest != x.rest || e != x.e {
			t.Errorf("Read8(%q): %q %q %v, want %q %q %v", x.s, text, rest, e, x.text, x.rest, x.e)
		}
	}
}

// P1.3: Read8 gives back what Text8 was given, whatever follows.
func TestText8Read8(t *testing.T) {
	for _, s := range texts() {
		out, e := Text8(s)
		if len(s) > api.MaxText8 {
			if out != "" || e != api.ErrLong {
				t.Errorf("Text8 of %d bytes: %q %v", len(s), out, e)
			}
			continue
		}
		for _, more := range []string{"", "\x00", "\x05more"} {
			if text, rest, e := Read8(out + more); text != s || rest != more || e != api.OK {
				t.Errorf("Read8(%q): %q %q %v", out+more, text, rest, e)
			}
		}
	}
}

// P1.4: a text with bytes 0 behind it.
func TestPad(t *testing.T) {
	for _, x := range []struct {
		s   string
		n   int
		out string
		e   api.Errno
	}{
		{"a", 3, "a\x00\x00", api.OK},
		{"ab", 2, "ab", api.OK},
		{"", 0, "", api.OK},
		{"", 2, "\x00\x00", api.OK},
		{"a\x00", 3, "a\x00\x00", api.OK},
		{"", api.MaxPad, strings.Repeat("\x00", api.MaxPad), api.OK},
		{strings.Repeat("x", api.MaxPad), api.MaxPad, strings.Repeat("x", api.MaxPad), api.OK},
		{"ab", 1, "", api.ErrLong},
		{"a", 0, "", api.ErrLong},
		{"\x00", 0, "", api.ErrLong},
		{strings.Repeat("x", api.MaxPad+1), api.MaxPad, "", api.ErrLong},
		{"a", api.MaxPad + 1, "", api.ErrArg},
		{strings.Repeat("x", api.MaxPad+2), api.MaxPad + 1, "", api.ErrArg},
		{"a", math.MaxInt, "", api.ErrArg},
		{"", -1, "", api.ErrArg},
		{"a", -1, "", api.ErrArg},
		{"a", math.MinInt, "", api.ErrArg},
	} {
		if out, e := Pad(x.s, x.n); out != x.out || e != x.e {
			t.Errorf("Pad of %d bytes to %d: %d bytes, %v; want %d, %v", len(x.s), x.n, len(out), e, len(x.out), x.e)
		}
	}
}

// P1.4: a text without the bytes 0 at its end.
func TestBare(t *testing.T) {
	for s, want := range map[string]string{
		"":                  "",
		"\x00":              "",
		"\x00\x00\x00":      "",
		"a":                 "a",
		"a\x00":             "a",
		"a\x00b\x00\x00":    "a\x00b",
		"\x00a":             "\x00a",
		"\x00\x00a\x00":     "\x00\x00a",
		"\xff\x00":          "\xff",
		"a0":                "a0",
		"a \x00":            "a ",
		"\x01\x00\x01\x00":  "\x01\x00\x01",
		"abc\x00\x00\x00\n": "abc\x00\x00\x00\n",
	} {
		if out := Bare(s); out != want {
			t.Errorf("Bare(%q): %q, want %q", s, out, want)
		}
	}
}

// P1.5: Get turns back what Num does, and Num what Get does.
func TestNumGet(t *testing.T) {
	for n := range 9 {
		for _, v := range []uint64{0, 1, 127, 128, 255, 256, 65535, 65536, 0x123456, 1<<32 - 1, 1 << 32, 0x123456789abcdef0, 1 << 63, most} {
			s, e := Num(v, n)
			if e != api.OK {
				continue
			}
			if back, e := Get(s); len(s) != n || back != v || e != api.OK {
				t.Errorf("Get(Num(%d, %d)): %d %v", v, n, back, e)
			}
		}
	}
	for _, s := range texts() {
		v, e := Get(s)
		if e != api.OK {
			continue
		}
		if back, e := Num(v, len(s)); back != s || e != api.OK {
			t.Errorf("Num(Get(%q), %d): %q %v", s, len(s), back, e)
		}
	}
}

// P1.5: the parts of a text, one behind the other, are the text; all but the last are of n bytes, and none is empty.
func TestSplitJoined(t *testing.T) {
	for _, s := range texts() {
		for _, n := range []int{1, 2, 3, 8, 64, 255, 256, 5000} {
			l, e := Split(s, n)
			if strings.Join(l, "") != s || e != api.OK {
				t.Errorf("Split(%q, %d): %q %v", s, n, l, e)
			}
			for i, part := range l {
				if part == "" || len(part) > n || i < len(l)-1 && len(part) != n {
					t.Errorf("Split(%q, %d): part %d is %q", s, n, i, part)
				}
			}
		}
	}
}

// P1.5: padding gives back what Bare took away.
func TestBarePad(t *testing.T) {
	for _, s := range texts() {
		bare := Bare(s)
		if !strings.HasPrefix(s, bare) || strings.HasSuffix(bare, "\x00") {
			t.Errorf("Bare(%q): %q", s, bare)
		}
		if back, e := Pad(bare, len(s)); back != s || e != api.OK {
			t.Errorf("Pad(Bare(%q), %d): %q %v", s, len(s), back, e)
		}
	}
}
