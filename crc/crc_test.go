package crc

import (
	"slices"
	"strings"
	"testing"

	"lunette/api"
)

// register goes as the document says, bit by bit: what the package is held against.
func register(c uint32, s string) uint32 {
	for _, b := range []byte(s) {
		for bit := range 8 {
			one := (c ^ uint32(b>>bit)) & 1
			c >>= 1
			if one == 1 {
				c ^= 0xedb88320
			}
		}
	}
	return c
}

// texts gives texts of many lengths, among them each byte alone.
func texts() []string {
	l := []string{"", "\x00", "\x00\x00\x00", "\x00\x00\x00\x00", "\xff\xff\xff\xff", "abc", "abcd", "abcde", "é€", "123456789"}
	for b := range 256 {
		l = append(l, string([]byte{byte(b)}))
	}
	for _, n := range []int{7, 8, 31, 63, 64, 65, 255, 256, 1000} {
		b := make([]byte, n)
		for i := range b {
			b[i] = byte(i*i + 3*n)
		}
		l = append(l, string(b), strings.Repeat("\x00", n), strings.Repeat("\xff", n))
	}
	return l
}

// fourBytes gives the bytes of c, the least significant first.
func fourBytes(c uint32) string {
	return string([]byte{byte(c), byte(c >> 8), byte(c >> 16), byte(c >> 24)})
}

// P2.1: the register goes over each byte as the document says, whatever it starts with.
func TestMore(t *testing.T) {
	for _, c := range []uint32{0, 1, 0x80, 0xff, 0x100, 0x12345678, 0x80000000, 0xedb88320, 0xfffffffe, 0xffffffff} {
		for _, s := range texts() {
			if got, want := More(c, s), register(c, s); got != want {
				t.Errorf("More(%08x, %q): %08x, want %08x", c, s, got, want)
			}
		}
	}
}

// P2.1: registers that are known; no bytes leave one as it is.
func TestMoreKnown(t *testing.T) {
	for _, x := range []struct {
		c    uint32
		s    string
		want uint32
	}{
		{0, "", 0},
		{0x12345678, "", 0x12345678},
		{0xffffffff, "", 0xffffffff},
		{0, "\x00", 0},
		{0, "\x80", 0xedb88320},
		{0, "\x01", 0x77073096},
		{0x80, "\x80", 0},
		{0xffffffff, "123456789", ^uint32(0xcbf43926)},
	} {
		if got := More(x.c, x.s); got != x.want {
			t.Errorf("More(%08x, %q): %08x, want %08x", x.c, x.s, got, x.want)
		}
	}
}

// P2.1: a text may be gone over in two parts, wherever it is cut.
func TestMoreInParts(t *testing.T) {
	s := "over \x00 and \xff, again"
	want := More(7, s)
	for i := range len(s) + 1 {
		if got := More(More(7, s[:i]), s[i:]); got != want {
			t.Errorf("cut at %d: %08x, want %08x", i, got, want)
		}
	}
}

// P2.1: sums that are known; no parts and empty parts have the sum 0, and add nothing.
func TestSum(t *testing.T) {
	for _, x := range []struct {
		parts []string
		want  uint32
	}{
		{nil, 0},
		{[]string{}, 0},
		{[]string{""}, 0},
		{[]string{"", "", ""}, 0},
		{[]string{"123456789"}, 0xcbf43926},
		{[]string{"1234", "56789"}, 0xcbf43926},
		{[]string{"", "1", "", "2345678", "9", ""}, 0xcbf43926},
		{strings.Split("123456789", ""), 0xcbf43926},
		{[]string{"a"}, 0xe8b7be43},
		{[]string{"abc"}, 0x352441c2},
		{[]string{"\x00"}, 0xd202ef8d},
		{[]string{"\x00\x00\x00\x00"}, 0x2144df1c},
		{[]string{"\x00\x00", "\x00\x00"}, 0x2144df1c},
		{[]string{"\xff\xff\xff\xff"}, 0xffffffff},
		{[]string{"The quick brown fox jumps over the lazy dog"}, 0x414fa339},
	} {
		if got := Sum(x.parts...); got != x.want {
			t.Errorf("Sum(%q): %08x, want %08x", x.parts, got, x.want)
		}
	}
}

// P2.1: a sum is the complement of the register, and that of the parts is that of the whole.
func TestSumOfParts(t *testing.T) {
	var parts []string
	for _, s := range texts() {
		if got, want := Sum(s), ^register(0xffffffff, s); got != want {
			t.Errorf("Sum(%q): %08x, want %08x", s, got, want)
		}
		parts = append(parts, s)
		if got, want := Sum(parts...), ^register(0xffffffff, strings.Join(parts, "")); got != want {
			t.Errorf("Sum of %d parts: %08x, want %08x", len(parts), got, want)
		}
	}
	if Sum("ab", "c") == Sum("c", "ab") {
		t.Error("the order of the parts is not heeded")
	}
}

// R1: whoever goes over the bytes of parts may end within any of them.
func TestBytesOfEnds(t *testing.T) {
	for n := range 6 {
		var got []byte
		for b := range bytesOf("ab", "", "c", "de") {
			if len(got) == n {
				break
			}
			got = append(got, b)
		}
		if string(got) != "abcde"[:n] {
			t.Errorf("%d bytes: %q", n, got)
		}
	}
}

// R5: parts that are handed in stay as they are.
func TestSumLeavesItsParts(t *testing.T) {
	parts := []string{"", "1234", "", "56789"}
	before := slices.Clone(parts)
	if Sum(parts...); !slices.Equal(parts, before) {
		t.Errorf("%q, want %q", parts, before)
	}
}

// P2.1: a sealed text is the text, and its sum, the least significant byte first.
func TestSeal(t *testing.T) {
	for s, want := range map[string]string{
		"":                 "\x00\x00\x00\x00",
		"123456789":        "123456789\x26\x39\xf4\xcb",
		"a":                "a\x43\xbe\xb7\xe8",
		"\x00":             "\x00\x8d\xef\x02\xd2",
		"\x00\x00\x00\x00": "\x00\x00\x00\x00\x1c\xdf\x44\x21",
		"\xff\xff\xff\xff": "\xff\xff\xff\xff\xff\xff\xff\xff",
	} {
		if got := Seal(s); got != want {
			t.Errorf("Seal(%q): %q, want %q", s, got, want)
		}
	}
	for _, s := range texts() {
		if got, want := Seal(s), s+fourBytes(^register(0xffffffff, s)); got != want {
			t.Errorf("Seal(%q): %q, want %q", s, got, want)
		}
	}
}

// P2.2: what opens, what is too short, and what has another sum; nothing is told beside an error.
func TestOpen(t *testing.T) {
	for _, x := range []struct {
		s, text string
		e       api.Errno
	}{
		{"", "", api.ErrEnd},
		{"\x00", "", api.ErrEnd},
		{"\x00\x00", "", api.ErrEnd},
		{"\x00\x00\x00", "", api.ErrEnd},
		{"abc", "", api.ErrEnd},
		{"\x00\x00\x00\x00", "", api.OK},
		{"\x01\x00\x00\x00", "", api.ErrForm},
		{"\x00\x00\x00\x01", "", api.ErrForm},
		{"abcd", "", api.ErrForm},
		{"a\x43\xbe\xb7\xe8", "a", api.OK},
		{"b\x43\xbe\xb7\xe8", "", api.ErrForm},
		{"a\xe8\xb7\xbe\x43", "", api.ErrForm},
		{"a\x43\xbe\xb7\xe9", "", api.ErrForm},
		{"\x00\x00\x00\x00\x00", "", api.ErrForm},
		{"\x00\x8d\xef\x02\xd2", "\x00", api.OK},
		{"123456789\x26\x39\xf4\xcb", "123456789", api.OK},
		{"123456789\xcb\xf4\x39\x26", "", api.ErrForm},
		{"123456789\xd9\xc6\x0b\x34", "", api.ErrForm}, // the register, not its complement
		{"123456789\x26\x39\xf4", "", api.ErrForm},
		{"123456789\x26\x39\xf4\xcb\x00", "", api.ErrForm},
		{"\x26\x39\xf4\xcb123456789", "", api.ErrForm},
	} {
		if text, e := Open(x.s); text != x.text || e != x.e {
			t.Errorf("Open(%q): %q %v, want %q %v", x.s, text, e, x.text, x.e)
		}
	}
}

// P2.2: of all last bytes that a text may have, one opens.
func TestOpenOneLastByte(t *testing.T) {
	for _, s := range []string{"", "x", "1234", strings.Repeat("\xff", 60)} {
		sealed := Seal(s)
		for b := range 256 {
			tried := sealed[:len(sealed)-1] + string([]byte{byte(b)})
			text, e := Open(tried)
			switch {
			case tried == sealed && (text != s || e != api.OK):
				t.Errorf("Open(%q): %q %v", tried, text, e)
			case tried != sealed && (text != "" || e != api.ErrForm):
				t.Errorf("Open(%q): %q %v", tried, text, e)
			}
		}
	}
}

// P2.3: Open gives back what Seal was given, sealed once or often.
func TestSealOpen(t *testing.T) {
	for _, s := range texts() {
		sealed := Seal(s)
		if back, e := Open(sealed); back != s || e != api.OK {
			t.Errorf("Open(Seal(%q)): %q %v", s, back, e)
		}
		if back, e := Open(Seal(sealed)); back != sealed || e != api.OK {
			t.Errorf("Open(Seal(Seal(%q))): %q %v", s, back, e)
		}
	}
}

// inverted gives s with those bits inverted, counted from at on, that mask has; those beyond the end of s are left out.
func inverted(s string, at int, mask uint32) string {
	b := []byte(s)
	for i := range 32 {
		if k := at + i; mask>>i&1 == 1 && k < 8*len(b) {
			b[k/8] ^= 1 << (k % 8)
		}
	}
	return string(b)
}

// masks gives sets of bits within 32 in a row, the lowest one in each: one bit, all bits up to each, first and last ones, and many more.
func masks() []uint32 {
	l := []uint32{0x80000001, 0x55555555, 0xedb88321, 0xdb710641}
	for n := range 32 {
		l = append(l, 1|1<<n, 1<<n|(1<<n-1))
	}
	x := uint32(1)
	for range 100 {
		x = x*1664525 + 1013904223
		l = append(l, x|1)
	}
	return l
}

// P2.3: whatever bits are inverted within 32 in a row, wherever they lie: what was sealed doesn't open.
func TestInverted(t *testing.T) {
	for _, s := range []string{"", "a", "abc", "abcd", "abcde", "\x00\x00\x00\x00\x00\x00", "\xff\xff\xff\xff\xff", strings.Repeat("sealed.", 9)} {
		sealed := Seal(s)
		for at := range 8 * len(sealed) {
			for _, mask := range masks() {
				bad := inverted(sealed, at, mask)
				if text, e := Open(bad); bad == sealed || text != "" || e != api.ErrForm {
					t.Errorf("Open of %q, from bit %d on inverted by %08x: %q %v", sealed, at, mask, text, e)
				}
			}
		}
	}
}
