package path

import (
	"strings"
	"testing"

	"lunette/api"
)

// isName tells whether s is a name, as the chapter's definition has it, byte by byte: what the package is held against.
func isName(s string) bool {
	for i := range len(s) {
		if s[i] == 47 || s[i] == 0 {
			return false
		}
	}
	return len(s) >= 1 && len(s) <= 27 && s != "." && s != ".."
}

// checkName holds Name of s against what is to come of it.
func checkName(t *testing.T, s string, want api.Errno) {
	t.Helper()
	if e := Name(s); e != want {
		t.Errorf("%q: %v, not %v", s, e, want)
	}
}

// P17.1: names, and texts that are none.
func TestName(t *testing.T) {
	for _, s := range []string{
		"a", "Z", "0", "-", "_", " ", "\n", "\t", "\\", "*", "~", "a b", "name.txt", "lost+found",
		"...", "....", ".a", "a.", "a..", "..a", ".a.", ". ", " .", "..\n", ".\x01", ". .", strings.Repeat(".", 27),
		"\x01", "\x7f", "\x80", "\xff", "\xff\xfe", "\xc0\xaf", "\xe4\xb8", "a\xc3", "\xed\xa0\x80", "\xf0\x9f\x98\x80", "日本語", "é", "\u2044", "\uff0f", "\u2215",
		strings.Repeat("x", 26), strings.Repeat("x", 27), strings.Repeat("é", 13), strings.Repeat("é", 13) + "x", strings.Repeat("\xff", 27), strings.Repeat("日", 9),
	} {
		checkName(t, s, api.OK)
	}
	for _, s := range []string{
		"", ".", "..", "/", "//", "\x00", "\x00\x00", "/a", "a/", "a/b", "/..", "../", "./", "/.", "\x00a", "a\x00", "a\x00b", ".\x00", "..\x00", "\x00.", "/\x00", "\x00/", "\xff/", "/\xff", "\xff\x00", "\xc3/", "日/", "é\x00",
		strings.Repeat("x", 28), strings.Repeat("x", 29), strings.Repeat("x", 255), strings.Repeat("x", 256), strings.Repeat("x", 256+5), strings.Repeat("x", 1<<16+1), strings.Repeat("x", 1<<20),
		strings.Repeat("é", 14), strings.Repeat("日", 10), strings.Repeat(".", 28), strings.Repeat("/", 27), strings.Repeat("/", 28), strings.Repeat("\x00", 27), strings.Repeat("\xff", 28),
		strings.Repeat("x", 26) + "/", strings.Repeat("x", 26) + "\x00", strings.Repeat("x", 27) + "/", strings.Repeat("x", 27) + "\x00",
	} {
		checkName(t, s, api.ErrArg)
	}
}

// P17.1: which bytes a name may have: each byte at each place of names of each length.
func TestNameBytes(t *testing.T) {
	for n := range 30 {
		for i := range n {
			for v := range 256 {
				b := []byte(strings.Repeat("x", n))
				b[i] = byte(v)
				want := api.ErrArg
				if n <= 27 && v != '/' && v != 0 && !(n == 1 && v == '.') {
					want = api.OK
				}
				checkName(t, string(b), want)
			}
		}
	}
}

// P17.1: all texts of one byte and of two, and those of up to four of some bytes, are names or not as the definition says.
func TestNameShort(t *testing.T) {
	check := func(s string) {
		want := api.ErrArg
		if isName(s) {
			want = api.OK
		}
		checkName(t, s, want)
	}
	for a := range 256 {
		check(string([]byte{byte(a)}))
		for b := range 256 {
			check(string([]byte{byte(a), byte(b)}))
		}
	}
	some := []byte{0, 1, '.', '/', '0', 'a', 0x7f, 0x80, 0xaf, 0xc0, 0xe0, 0xff}
	for _, a := range some {
		for _, b := range some {
			for _, c := range some {
				check(string([]byte{a, b, c}))
				for _, d := range some {
					check(string([]byte{a, b, c, d}))
				}
			}
		}
	}
}
