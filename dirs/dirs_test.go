package dirs

import (
	"math"
	"slices"
	"strings"
	"testing"

	"lunette/api"
)

// isName tells whether s is a name, as the definition of names has it.
func isName(s string) bool {
	for i := range len(s) {
		if s[i] == 47 || s[i] == 0 {
			return false
		}
	}
	return len(s) >= 1 && len(s) <= 27 && s != "." && s != ".."
}

// zeros gives n bytes 0.
func zeros(n int) string { return strings.Repeat("\x00", n) }

// raw gives 32 bytes: the number, the length, the name, and bytes 0, whether they are a slot or not.
func raw(ino uint32, length byte, name string) string {
	b := make([]byte, 32)
	b[0], b[1], b[2], b[3] = byte(ino%256), byte(ino/256%256), byte(ino/65536%256), byte(ino/16777216)
	b[4] = length
	copy(b[5:], name)
	return string(b)
}

// slot gives that of an entry.
func slot(name string, ino uint32) string { return raw(ino, byte(len(name)), name) }

// told gives the entries of the slots of s (the zero entry: it is free), and what is wrong with s, rule by rule as the chapter's definition has them: what the package is held against.
func told(s string) ([]api.Entry, api.Errno) {
	if len(s)%64 != 0 || len(s) > 36*64 {
		return nil, api.ErrForm
	}
	var l []api.Entry
	e := api.OK
	for from := 0; from < len(s); from += 32 {
		own := s[from : from+32]
		if own == zeros(32) {
			l = append(l, api.Entry{})
			continue
		}
		ino := uint32(own[0]) + 256*uint32(own[1]) + 65536*uint32(own[2]) + 16777216*uint32(own[3])
		length := int(own[4])
		if ino == 0 || length > 27 || !isName(own[5:5+length]) {
			return nil, api.ErrForm
		}
		for i := 5 + length; i < 32; i++ {
			if own[i] != 0 {
				return nil, api.ErrForm
			}
		}
		name := own[5 : 5+length]
		for _, x := range l {
			if x.Name == name {
				e = api.ErrHave
			}
		}
		l = append(l, api.Entry{Name: name, Ino: ino})
	}
	if e != api.OK {
		return nil, e
	}
	return l, api.OK
}

// where gives the slot that has the name, -1 if none has.
func where(l []api.Entry, name string) int {
	for at, x := range l {
		if x.Ino != 0 && x.Name == name {
			return at
		}
	}
	return -1
}

// content gives the text of which these are the slots; an empty name makes a free one.
func content(names ...string) string {
	s := ""
	for at, name := range names {
		if name == "" {
			s += zeros(32)
			continue
		}
		s += slot(name, uint32(at)*77777+1)
	}
	return s
}

// wide gives n names: of one byte, of 27, with bytes that are no text, and others.
func wide(n int) []string {
	l := make([]string, n)
	for k := range l {
		switch k % 4 {
		case 0:
			l[k] = string([]byte{byte(128 + k)})
		case 1:
			l[k] = strings.Repeat("x", 26) + string([]byte{byte(100 + k)})
		case 2:
			l[k] = "\xff\xc3" + string([]byte{byte(100 + k)})
		default:
			l[k] = "name" + string([]byte{byte(100 + k)})
		}
	}
	return l
}

// without gives l, but with no name where free says so.
func without(l []string, free func(at int) bool) []string {
	l = slices.Clone(l)
	for at := range l {
		if free(at) {
			l[at] = ""
		}
	}
	return l
}

// contents gives directories' contents: of no sector, of one, of some and of 36; with no free slot, with free ones at the beginning, between and at the end, with all free.
func contents() []string {
	all := []string{
		"", zeros(64), content("a", ""), content("", "a"), content("a", "b"), content("b", "a"),
		content("a", "b", "c", ""), content("a", "b", "", "c"), content("", "", "", "c"), content("", "", "c", ""), content("a", "", "", ""), content("", "a", "", ""),
		content("a", "", "", "", "", ""), content("a", "", "b", "", "", ""), content("", "", "", "", "b", "c"), content("a", "aa", "aaa", "A", "Aa", ""),
		content("...", ".a", "a.", "..a", " ", "\x01"), slot("a", 1) + slot("b", 1), slot("a", math.MaxUint32) + slot("b", math.MaxUint32), slot("\x01", 1<<24) + slot("a", 1<<8),
		content("z", "") + zeros(35*64), zeros(36 * 64), zeros(36*64-64) + content("", "z"), zeros(36*64-64) + content("z", ""), zeros(35*64-64) + content("", "z") + zeros(64),
	}
	for _, n := range []int{2, 4, 6, 10, 40, 68, 70, 72} {
		l := wide(n)
		all = append(all,
			content(l...),
			content(without(l, func(at int) bool { return true })...),
			content(without(l, func(at int) bool { return at == 0 })...),
			content(without(l, func(at int) bool { return at == 1 })...),
			content(without(l, func(at int) bool { return at == n/2 })...),
			content(without(l, func(at int) bool { return at == n-2 })...),
			content(without(l, func(at int) bool { return at == n-1 })...),
			content(without(l, func(at int) bool { return at < n/2 })...),
			content(without(l, func(at int) bool { return at >= n/2 })...),
			content(without(l, func(at int) bool { return at >= n-2 })...),
			content(without(l, func(at int) bool { return at >= n-3 })...),
			content(without(l, func(at int) bool { return at%2 == 0 })...),
			content(without(l, func(at int) bool { return at%2 == 1 })...),
			content(without(l, func(at int) bool { return at != n-1 })...),
			content(without(l, func(at int) bool { return at != n-2 })...),
			content(without(l, func(at int) bool { return at != 0 })...),
			content(without(l, func(at int) bool { return at/2%2 == 1 })...),
		)
	}
	return all
}

// A faulty text is no directory's content.
type faulty struct {
	s string
	e api.Errno
}

// malformed gives 32 bytes each that are no slot.
func malformed() []string {
	l := []string{
		// The number is 0, and it is not free.
		raw(0, 1, "a"), raw(0, 0, "a"), raw(0, 1, ""), raw(0, 27, strings.Repeat("x", 27)), raw(0, 28, ""), raw(0, 255, ""), zeros(31) + "\x01", zeros(5) + "\x01" + zeros(26),
		// The length.
		raw(5, 0, ""), raw(5, 0, "a"), raw(5, 2, "a"), raw(5, 1, "ab"), raw(5, 26, strings.Repeat("x", 27)), raw(5, 27, strings.Repeat("x", 26)), raw(5, 28, strings.Repeat("x", 27)), raw(5, 28, ""), raw(5, 29, "a"), raw(5, 128, "a"), raw(5, 255, "a"), raw(5, 255, ""), raw(5, 27, ""), raw(5, 28, strings.Repeat("\xff", 27)),
		// The name.
		raw(5, 1, "."), raw(5, 2, ".."), raw(5, 1, "/"), raw(5, 3, "a/b"), raw(5, 2, "/a"), raw(5, 2, "a/"), raw(5, 1, ""), raw(5, 3, "a\x00b"), raw(5, 2, "\x00a"), raw(5, 2, "a\x00"), raw(5, 27, strings.Repeat("x", 26)+"/"), raw(5, 27, "/"+strings.Repeat("x", 26)), raw(5, 27, strings.Repeat("x", 26)+"\x00"),
		// Bytes behind the name.
		raw(5, 1, "a\x00b"), raw(5, 1, "aa"), raw(5, 1, "a"+zeros(25)+"y"), raw(5, 26, strings.Repeat("x", 26)+"\x01"), raw(5, 2, "ab"+zeros(12)+"\xff"),
		strings.Repeat("\xff", 32), strings.Repeat("\x01", 32), strings.Repeat("x", 32),
	}
	return l
}

// faults gives texts that are no directory's content, and what is wrong with each.
func faults() []faulty {
	var l []faulty
	// Lengths.
	for _, n := range []int{1, 2, 31, 32, 33, 63, 65, 96, 127, 129, 160, 2303, 2305, 2304 + 32, 2304 + 63, 2368, 2432, 4608, 1 << 16, 1<<16 + 64} {
		l = append(l, faulty{zeros(n), api.ErrForm})
	}
	full := content(wide(72)...)
	l = append(l,
		faulty{full[:2303], api.ErrForm}, faulty{full + "\x00", api.ErrForm}, faulty{full + zeros(64), api.ErrForm}, faulty{full + content("more", ""), api.ErrForm}, faulty{full + full, api.ErrForm},
		faulty{full[1:], api.ErrForm}, faulty{slot("a", 1), api.ErrForm}, faulty{slot("a", 1) + slot("a", 1) + slot("b", 1), api.ErrForm}, faulty{slot("a", 1) + slot("b", 1) + "\x00", api.ErrForm},
	)
	for _, bad := range malformed() {
		l = append(l,
			faulty{bad + zeros(32), api.ErrForm}, faulty{zeros(32) + bad, api.ErrForm}, faulty{bad + bad, api.ErrForm}, faulty{bad + slot("b", 3), api.ErrForm}, faulty{slot("b", 3) + bad, api.ErrForm},
			faulty{content("a", "b", "c", "d") + bad + zeros(32), api.ErrForm}, faulty{full[:2272] + bad, api.ErrForm}, faulty{full[:64] + bad + full[96:], api.ErrForm},
			// A slot is wrong, and a name occurs twice: ahead of it, behind it, and about it.
			faulty{slot("a", 1) + slot("a", 1) + bad + zeros(32), api.ErrForm}, faulty{slot("a", 1) + slot("a", 1) + zeros(32) + bad, api.ErrForm}, faulty{bad + slot("b", 1) + slot("a", 1) + slot("a", 1), api.ErrForm},
			faulty{slot("a", 1) + bad + slot("a", 1) + slot("b", 1), api.ErrForm}, faulty{slot("a", 1) + slot("b", 1) + slot("a", 1) + bad, api.ErrForm},
		)
	}
	// A name that occurs twice.
	for _, x := range []string{
		slot("a", 1) + slot("a", 1), slot("a", 1) + slot("a", 2), slot("a", math.MaxUint32) + slot("a", 1), content("a", "", "a", ""), content("", "a", "", "a"), content("a", "b", "a", ""), content("a", "b", "b", ""), content("b", "a", "c", "a"),
		content("a", "a", "a", "a"), content("a", "a", "b", "b"), content("a", "b", "a", "b"), content("\xff", "\xff"), content(strings.Repeat("x", 27), strings.Repeat("x", 27)), content("a", "") + zeros(33*64) + content("", "", "", "a"),
		content("a", "a", "", "", "", ""), content("", "", "", "", "...", "..."),
	} {
		l = append(l, faulty{x, api.ErrHave})
	}
	return l
}

// bad gives entries that form no slot.
func bad() []api.Entry {
	return []api.Entry{
		{}, {Name: "a"}, {Name: "b"}, {Name: strings.Repeat("x", 27)}, {Ino: 1}, {Ino: 5}, {Ino: math.MaxUint32},
		{Name: ".", Ino: 1}, {Name: "..", Ino: 1}, {Name: ".", Ino: 0}, {Name: "/", Ino: 5}, {Name: "/a", Ino: 5}, {Name: "a/", Ino: 5}, {Name: "a/b", Ino: 5},
		{Name: "\x00", Ino: 5}, {Name: "\x00a", Ino: 5}, {Name: "a\x00", Ino: 5}, {Name: "a\x00b", Ino: 5}, {Name: zeros(27), Ino: 5},
		{Name: strings.Repeat("x", 28), Ino: 5}, {Name: strings.Repeat("x", 29), Ino: 5}, {Name: strings.Repeat("x", 28)}, {Name: strings.Repeat("x", 255), Ino: 1}, {Name: strings.Repeat("x", 256), Ino: 1}, {Name: strings.Repeat("x", 257), Ino: 1}, {Name: strings.Repeat("x", 1<<16), Ino: 1}, {Name: "a" + zeros(27), Ino: 1},
	}
}

// good gives entries that form a slot.
func good() []api.Entry {
	var l []api.Entry
	for _, ino := range []uint32{1, 2, 5, 255, 256, 258, 65535, 65536, 1 << 24, 1 << 31, math.MaxUint32 - 1, math.MaxUint32} {
		for _, name := range []string{"a", "b", "c", "A", "...", ".a", "a.", " ", "\x01", "\x7f", "\x80", "\xff", "\xff\xfe", "\xc0\xaf", "日本", "name", strings.Repeat("x", 26), strings.Repeat("x", 27), strings.Repeat("\xff", 27), strings.Repeat(".", 27)} {
			l = append(l, api.Entry{Name: name, Ino: ino})
		}
	}
	return l
}

// An outcome is what a call comes to: a text, a number, its error.
type outcome struct {
	s   string
	ino uint32
	e   api.Errno
}

// checkFind holds Find against the entries that s has.
func checkFind(t *testing.T, s string, name string) {
	t.Helper()
	l, _ := told(s)
	var want api.Entry
	place := where(l, name)
	if place >= 0 {
		want = l[place]
	}
	if ino, at, is := Find(s, name); ino != want.Ino || at != max(place, 0) || is != (place >= 0) {
		t.Errorf("Find(%q, %q): %d %d %v, not %d %d", s, name, ino, at, is, want.Ino, place)
	}
}

// checkList holds List against the entries that s has.
func checkList(t *testing.T, s string) {
	t.Helper()
	l, _ := told(s)
	var want []api.Entry
	for _, x := range l {
		if x.Ino != 0 {
			want = append(want, x)
		}
	}
	if got := List(s); !slices.Equal(got, want) {
		t.Errorf("List(%q): %v, not %v", s, got, want)
	}
}

// checkAdd holds Add against what the chapter says of it.
func checkAdd(t *testing.T, s, name string, ino uint32) {
	t.Helper()
	want := func() outcome {
		l, e := told(s)
		if e != api.OK {
			return outcome{e: e}
		}
		if ino == 0 || !isName(name) {
			return outcome{e: api.ErrArg}
		}
		if where(l, name) >= 0 {
			return outcome{e: api.ErrHave}
		}
		for at, x := range l {
			if x.Ino == 0 {
				return outcome{s: s[:32*at] + slot(name, ino) + s[32*at+32:]}
			}
		}
		if len(s) == 36*64 {
			return outcome{e: api.ErrFull}
		}
		return outcome{s: s + slot(name, ino) + zeros(32)}
	}()
	u, e := Add(s, name, ino)
	if got := (outcome{s: u, e: e}); got != want {
		t.Errorf("Add(%q, %q, %d): %+v, not %+v", s, name, ino, got, want)
	}
}

// checkSet holds Set against what the chapter says of it.
func checkSet(t *testing.T, s, name string, ino uint32) {
	t.Helper()
	want := func() outcome {
		l, e := told(s)
		if e != api.OK {
			return outcome{e: e}
		}
		if ino == 0 {
			return outcome{e: api.ErrArg}
		}
		at := where(l, name)
		if at < 0 {
			return outcome{e: api.ErrNone}
		}
		return outcome{s: s[:32*at] + slot(name, ino) + s[32*at+32:]}
	}()
	u, e := Set(s, name, ino)
	if got := (outcome{s: u, e: e}); got != want {
		t.Errorf("Set(%q, %q, %d): %+v, not %+v", s, name, ino, got, want)
	}
}

// checkDel holds Del against what the chapter says of it.
func checkDel(t *testing.T, s, name string) {
	t.Helper()
	want := func() outcome {
		l, e := told(s)
		if e != api.OK {
			return outcome{e: e}
		}
		at := where(l, name)
		if at < 0 {
			return outcome{e: api.ErrNone}
		}
		return outcome{s: s[:32*at] + zeros(32) + s[32*at+32:], ino: l[at].Ino}
	}()
	u, ino, e := Del(s, name)
	if got := (outcome{s: u, ino: ino, e: e}); got != want {
		t.Errorf("Del(%q, %q): %+v, not %+v", s, name, got, want)
	}
}

// checkTrim holds Trim against what the chapter says of it.
func checkTrim(t *testing.T, s string) {
	t.Helper()
	u, f := s, api.OK
	if _, f = told(s); f != api.OK {
		u = ""
	}
	for len(u) > 0 && u[len(u)-64:] == zeros(64) {
		u = u[:len(u)-64]
	}
	want := outcome{s: u, e: f}
	u, e := Trim(s)
	if got := (outcome{s: u, e: e}); got != want {
		t.Errorf("Trim(%q): %+v, not %+v", s, got, want)
	}
}

// checkText holds Check, List and Trim of s against what the chapter says of them.
func checkText(t *testing.T, s string) {
	t.Helper()
	_, want := told(s)
	if e := Check(s); e != want {
		t.Errorf("Check(%q): %v, not %v", s, e, want)
	}
	checkList(t, s)
	checkTrim(t, s)
}

// checkEntry holds each function that is passed a name, and a number, against what the chapter says of it.
func checkEntry(t *testing.T, s, name string, ino uint32) {
	t.Helper()
	checkFind(t, s, name)
	checkAdd(t, s, name, ino)
	checkSet(t, s, name, ino)
	checkDel(t, s, name)
}

// The chapter's example.
func TestExample(t *testing.T) {
	s, e := Add("", "a", 5)
	if want := "\x05\x00\x00\x00\x01a" + zeros(58); s != want || e != api.OK {
		t.Fatalf("%q %v", s, e)
	}
	s, e = Add(s, "b", 6)
	if want := "\x05\x00\x00\x00\x01a" + zeros(26) + "\x06\x00\x00\x00\x01b" + zeros(26); s != want || e != api.OK {
		t.Fatalf("%q %v", s, e)
	}
	s, ino, e := Del(s, "a")
	if want := zeros(32) + "\x06\x00\x00\x00\x01b" + zeros(26); s != want || ino != 5 || e != api.OK {
		t.Fatalf("%q %d %v", s, ino, e)
	}
	s, e = Add(s, "c", 7)
	if want := "\x07\x00\x00\x00\x01c" + zeros(26) + "\x06\x00\x00\x00\x01b" + zeros(26); s != want || e != api.OK {
		t.Fatalf("%q %v", s, e)
	}
	if u, e := Add(s, "c", 8); u != "" || e != api.ErrHave {
		t.Errorf("%q %v", u, e)
	}
	if u, e := Add(s, "/", 8); u != "" || e != api.ErrArg {
		t.Errorf("%q %v", u, e)
	}
}

// P10.1: the slot of an entry, each field at its place.
func TestSlot(t *testing.T) {
	for _, x := range []struct {
		x api.Entry
		s string
	}{
		{api.Entry{Name: "a", Ino: 5}, "\x05\x00\x00\x00\x01a" + zeros(26)},
		{api.Entry{Name: "a", Ino: 1}, "\x01\x00\x00\x00\x01a" + zeros(26)},
		{api.Entry{Name: "b", Ino: 258}, "\x02\x01\x00\x00\x01b" + zeros(26)},
		{api.Entry{Name: "name", Ino: 0x04030201}, "\x01\x02\x03\x04\x04name" + zeros(23)},
		{api.Entry{Name: "\xff\xfe", Ino: math.MaxUint32}, "\xff\xff\xff\xff\x02\xff\xfe" + zeros(25)},
		{api.Entry{Name: strings.Repeat("x", 26), Ino: 1 << 24}, "\x00\x00\x00\x01\x1a" + strings.Repeat("x", 26) + "\x00"},
		{api.Entry{Name: strings.Repeat("x", 27), Ino: 1 << 16}, "\x00\x00\x01\x00\x1b" + strings.Repeat("x", 27)},
	} {
		if s, e := Slot(x.x); s != x.s || e != api.OK {
			t.Errorf("%v: %q %v, not %q", x.x, s, e, x.s)
		}
	}
	for _, x := range good() {
		if s, e := Slot(x); s != slot(x.Name, x.Ino) || e != api.OK {
			t.Errorf("%v: %q %v", x, s, e)
		}
	}
}

// P10.1: what forms no slot.
func TestSlotWrong(t *testing.T) {
	for _, x := range bad() {
		if s, e := Slot(x); s != "" || e != api.ErrArg {
			t.Errorf("%v: %q %v", x, s, e)
		}
	}
	for _, x := range good() {
		if s, e := Slot(api.Entry{Name: x.Name}); s != "" || e != api.ErrArg {
			t.Errorf("%v: %q %v", x, s, e)
		}
	}
}

// P10.1: directories' contents.
func TestCheck(t *testing.T) {
	for _, s := range contents() {
		if e := Check(s); e != api.OK {
			t.Errorf("%q: %v", s, e)
		}
	}
	for n := range 36 {
		if e := Check(zeros(64 * n)); e != api.OK {
			t.Errorf("%d free sectors: %v", n, e)
		}
	}
	for _, x := range good() {
		for _, s := range []string{slot(x.Name, x.Ino) + zeros(32), zeros(32) + slot(x.Name, x.Ino), slot("other", 1) + slot(x.Name, x.Ino)} {
			if e := Check(s); e != api.OK {
				t.Errorf("%q: %v", s, e)
			}
		}
	}
}

// P10.1: what is no directory's content: ErrForm, also where a name occurs twice besides, or else ErrHave.
func TestCheckWrong(t *testing.T) {
	for _, x := range faults() {
		if e := Check(x.s); e != x.e {
			t.Errorf("%q: %v, not %v", x.s, e, x.e)
		}
	}
}

// P10.1: the length of a text: whole sectors, at most 36.
func TestCheckLength(t *testing.T) {
	full := content(wide(72)...) + zeros(3000)
	for n := range len(full) {
		want := api.ErrForm
		if n%64 == 0 && n <= 2304 {
			want = api.OK
		}
		for _, s := range []string{zeros(n), full[:n]} {
			if e := Check(s); e != want {
				t.Errorf("%d bytes: %v, not %v", n, e, want)
			}
		}
	}
}

// P10.1: each byte of a slot, whatever it is, in slots of each kind.
func TestCheckBytes(t *testing.T) {
	for _, s := range []string{zeros(32), slot("a", 1), slot("a", 256), slot("ab", 5), slot("..a", 5), slot("...", 5), slot(strings.Repeat("x", 26), 5), slot(strings.Repeat("x", 27), 5), slot("\xff", math.MaxUint32)} {
		taken := 0
		for i := range 32 {
			for v := range 256 {
				b := []byte(s)
				b[i] = byte(v)
				for _, u := range []string{string(b) + slot("b", 3), slot("b", 3) + string(b), content("c", "d", "e", "") + zeros(32) + string(b), content("c", "c") + zeros(32) + string(b)} {
					_, want := told(u)
					if e := Check(u); e != want {
						t.Errorf("%q: %v, not %v", u, e, want)
					}
					if want == api.OK {
						taken++
					}
				}
			}
		}
		if taken < 96 {
			t.Errorf("%q: only %d taken", s, taken)
		}
	}
}

// P10.1: a slot is what its length says: each length of a name whose bytes are others.
func TestCheckNames(t *testing.T) {
	for length := range 256 {
		for n := range 28 {
			s := raw(5, byte(length), strings.Repeat("x", n)) + zeros(32)
			want := api.ErrForm
			if n == length && n > 0 {
				want = api.OK
			}
			if e := Check(s); e != want {
				t.Errorf("%q: %v, not %v", s, e, want)
			}
		}
	}
}

// P10.1: a name that occurs in any two slots, whichever they are, and whatever their numbers.
func TestCheckTwice(t *testing.T) {
	all := wide(72)
	for i := range 72 {
		for j := range i {
			l := slices.Clone(all)
			l[i] = l[j]
			if e := Check(content(l...)); e != api.ErrHave {
				t.Errorf("slots %d and %d: %v", j, i, e)
			}
			few := without(l, func(at int) bool { return at != i && at != j })
			if e := Check(content(few...)); e != api.ErrHave {
				t.Errorf("slots %d and %d alone: %v", j, i, e)
			}
			// The last slot is wrong besides.
			if s := content(l...); i < 71 {
				if e := Check(s[:71*32] + raw(5, 1, "/")); e != api.ErrForm {
					t.Errorf("slots %d and %d, and the last one: %v", j, i, e)
				}
			}
		}
	}
	// Names that are alike, and not the same.
	for _, l := range [][]string{{"a", "aa"}, {"a", "A"}, {"ab", "ba"}, {"a", "a "}, {"\xff", "\xfe"}, {"é", "e\u0301"}, {strings.Repeat("x", 26), strings.Repeat("x", 27)}, {"a", "a\x01"}, {"...", "...."}, {"", ""}} {
		if e := Check(content(l...)); e != api.OK {
			t.Errorf("%q: %v", l, e)
		}
	}
}

// P10.2: what is found: the number, the slot, and true, or nothing.
func TestFind(t *testing.T) {
	s := slot("a", 5) + zeros(32) + slot("bc", math.MaxUint32) + slot(strings.Repeat("x", 27), 1) + zeros(64) + zeros(32) + slot("\xff\x80", 258)
	for _, x := range []struct {
		name string
		ino  uint32
		at   int
		is   bool
	}{
		{"a", 5, 0, true}, {"bc", math.MaxUint32, 2, true}, {strings.Repeat("x", 27), 1, 3, true}, {"\xff\x80", 258, 7, true},
		{"", 0, 0, false}, {"b", 0, 0, false}, {"c", 0, 0, false}, {"A", 0, 0, false}, {"aa", 0, 0, false}, {"bcd", 0, 0, false}, {"a\x00", 0, 0, false}, {"\x00", 0, 0, false}, {zeros(27), 0, 0, false}, {".", 0, 0, false}, {"..", 0, 0, false}, {"/", 0, 0, false}, {"/a", 0, 0, false},
		{strings.Repeat("x", 26), 0, 0, false}, {strings.Repeat("x", 28), 0, 0, false}, {"\xff", 0, 0, false}, {"\xff\x80\x00", 0, 0, false}, {strings.Repeat("x", 1<<16), 0, 0, false},
	} {
		if ino, at, is := Find(s, x.name); ino != x.ino || at != x.at || is != x.is {
			t.Errorf("%q: %d %d %v", x.name, ino, at, is)
		}
	}
	for _, s := range []string{"", zeros(64), zeros(2304)} {
		for _, name := range []string{"", "a", "\x00", "."} {
			if ino, at, is := Find(s, name); ino != 0 || at != 0 || is {
				t.Errorf("%q: %d %d %v", name, ino, at, is)
			}
		}
	}
}

// P10.2: of all contents each name that is there is found, and none else.
func TestFindAll(t *testing.T) {
	for _, s := range contents() {
		l, _ := told(s)
		for _, x := range l {
			checkFind(t, s, x.Name)
			checkFind(t, s, x.Name+"x")
			checkFind(t, s, x.Name+"\x00")
			checkFind(t, s, strings.TrimSuffix(x.Name, "x"))
		}
		for _, x := range bad() {
			checkFind(t, s, x.Name)
		}
		for _, x := range good() {
			checkFind(t, s, x.Name)
		}
	}
}

// P10.2: entries are listed in the order of their slots, not of their names or numbers.
func TestList(t *testing.T) {
	long := strings.Repeat("x", 27)
	for _, x := range []struct {
		s string
		l []api.Entry
	}{
		{"", nil}, {zeros(64), nil}, {zeros(2304), nil},
		{slot("b", 9) + slot("a", 2), []api.Entry{{Name: "b", Ino: 9}, {Name: "a", Ino: 2}}},
		{slot("a", 9) + slot("b", 2), []api.Entry{{Name: "a", Ino: 9}, {Name: "b", Ino: 2}}},
		{zeros(32) + slot("a", 2), []api.Entry{{Name: "a", Ino: 2}}},
		{slot("a", 2) + zeros(32), []api.Entry{{Name: "a", Ino: 2}}},
		{slot("c", 2) + zeros(32) + slot(long, math.MaxUint32) + zeros(64) + slot("\xff", 2), []api.Entry{{Name: "c", Ino: 2}, {Name: long, Ino: math.MaxUint32}, {Name: "\xff", Ino: 2}}},
	} {
		if l := List(x.s); !slices.Equal(l, x.l) {
			t.Errorf("%q: %v, not %v", x.s, l, x.l)
		}
	}
	for _, s := range contents() {
		checkList(t, s)
	}
}

// P10.2: of a text that is no content nothing is found, or listed.
func TestFindListWrong(t *testing.T) {
	for _, x := range faults() {
		if l := List(x.s); len(l) != 0 {
			t.Errorf("List(%q): %v", x.s, l)
		}
		for _, name := range []string{"a", "b", "c", "", ".", "/", "...", "\xff", strings.Repeat("x", 27), "x", "more"} {
			if ino, at, is := Find(x.s, name); ino != 0 || at != 0 || is {
				t.Errorf("Find(%q, %q): %d %d %v", x.s, name, ino, at, is)
			}
		}
	}
}

// P10.2: what List answers is new memory each time (R5).
func TestListNew(t *testing.T) {
	s := content("a", "b", "", "c")
	l, other := List(s), List(s)
	want := slices.Clone(l)
	clear(l)
	_ = append(l, api.Entry{Name: "d", Ino: 4})
	if !slices.Equal(other, want) {
		t.Errorf("%v, not %v", other, want)
	}
	if again := List(s); !slices.Equal(again, want) {
		t.Errorf("%v, not %v", again, want)
	}
}

// P10.3: Add stores an entry in the first free slot: the first one, the second one, one between, the last one.
func TestAdd(t *testing.T) {
	all := wide(72)
	for _, n := range []int{2, 4, 6, 72} {
		for at := range n {
			for _, behind := range []func(k int) bool{
				func(k int) bool { return k == at },
				func(k int) bool { return k >= at },
				func(k int) bool { return k >= at && (k-at)%2 == 0 },
				func(k int) bool { return k == at || k == n-1 },
			} {
				s := content(without(all[:n], behind)...)
				u, e := Add(s, "new", 0x04030201)
				if want := s[:32*at] + "\x01\x02\x03\x04\x03new" + zeros(24) + s[32*at+32:]; u != want || e != api.OK {
					t.Errorf("slot %d of %d: %q %v, not %q", at, n, u, e, want)
				}
			}
		}
	}
}

// P10.3: where no slot is free, Add stores an entry in the first one of an additional sector; ErrFull if there are 36 sectors.
func TestAddSector(t *testing.T) {
	all := wide(72)
	for n := 0; n < 72; n += 2 {
		s := content(all[:n]...)
		u, e := Add(s, "new", 9)
		if want := s + slot("new", 9) + zeros(32); u != want || e != api.OK {
			t.Errorf("%d slots: %q %v, not %q", n, u, e, want)
		}
	}
	full := content(all...)
	for _, x := range good() {
		if u, e := Add(full, "new"+x.Name[:1], x.Ino); u != "" || e != api.ErrFull {
			t.Errorf("%v: %q %v", x, u, e)
		}
	}
	// With all sectors there, and a slot free, there is room.
	for at := range 72 {
		s := content(without(all, func(k int) bool { return k == at })...)
		if u, e := Add(s, "new", 9); u != s[:32*at]+slot("new", 9)+s[32*at+32:] || e != api.OK {
			t.Errorf("slot %d: %q %v", at, u, e)
		}
	}
}

// P10.3: which of Add's errors comes first: that of the text, ErrArg, ErrHave, ErrFull.
func TestAddWrong(t *testing.T) {
	for _, x := range faults() {
		for _, y := range []api.Entry{{Name: "new", Ino: 5}, {Name: "a", Ino: 5}, {Name: "/", Ino: 5}, {Name: "a"}, {}} {
			if u, e := Add(x.s, y.Name, y.Ino); u != "" || e != x.e {
				t.Errorf("Add(%q, %v): %q %v, not %v", x.s, y, u, e, x.e)
			}
		}
	}
	full := content(wide(72)...)
	for _, s := range []string{"", zeros(64), content("a", "b"), content("a", ""), full} {
		for _, y := range bad() {
			if u, e := Add(s, y.Name, y.Ino); u != "" || e != api.ErrArg {
				t.Errorf("Add(%q, %v): %q %v", s, y, u, e)
			}
		}
	}
	for _, s := range contents() {
		for _, y := range List(s) {
			// The name is there; with the number 0 it forms no slot either.
			for _, ino := range []uint32{y.Ino, 1, 77, math.MaxUint32} {
				if u, e := Add(s, y.Name, ino); u != "" || e != api.ErrHave {
					t.Errorf("Add(%q, %q, %d): %q %v", s, y.Name, ino, u, e)
				}
			}
			if u, e := Add(s, y.Name, 0); u != "" || e != api.ErrArg {
				t.Errorf("Add(%q, %q, 0): %q %v", s, y.Name, u, e)
			}
		}
	}
}

// P10.3: Set gives the slot of a name another number, and changes nothing else.
func TestSet(t *testing.T) {
	s := slot("a", 5) + zeros(32) + slot("bc", 6) + slot("d", 7)
	for _, ino := range []uint32{1, 2, 6, 255, 256, 65536, 1 << 24, 0x04030201, math.MaxUint32} {
		for at, name := range []string{"a", "", "bc", "d"} {
			if name == "" {
				continue
			}
			u, e := Set(s, name, ino)
			if want := s[:32*at] + slot(name, ino) + s[32*at+32:]; u != want || e != api.OK {
				t.Errorf("%q %d: %q %v, not %q", name, ino, u, e, want)
			}
		}
	}
	for _, s := range contents() {
		for at, x := range List(s) {
			checkSet(t, s, x.Name, uint32(at)+1)
			checkSet(t, s, x.Name, x.Ino)
			checkSet(t, s, x.Name, math.MaxUint32)
		}
	}
}

// P10.3: which of Set's errors comes first: that of the text, ErrArg for the number 0, ErrNone.
func TestSetWrong(t *testing.T) {
	for _, x := range faults() {
		for _, name := range []string{"a", "none", "", "/"} {
			for _, ino := range []uint32{0, 1, 5} {
				if u, e := Set(x.s, name, ino); u != "" || e != x.e {
					t.Errorf("Set(%q, %q, %d): %q %v, not %v", x.s, name, ino, u, e, x.e)
				}
			}
		}
	}
	for _, s := range []string{"", zeros(64), zeros(2304), content("a", "b"), content("a", ""), content(wide(72)...)} {
		for _, name := range []string{"none", "", ".", "..", "/", "\x00", "a\x00", zeros(27), strings.Repeat("y", 28), "aa", "A"} {
			if u, e := Set(s, name, 5); u != "" || e != api.ErrNone {
				t.Errorf("Set(%q, %q, 5): %q %v", s, name, u, e)
			}
			if u, e := Set(s, name, 0); u != "" || e != api.ErrArg {
				t.Errorf("Set(%q, %q, 0): %q %v", s, name, u, e)
			}
		}
		if u, e := Set(s, "a", 0); u != "" || e != api.ErrArg {
			t.Errorf("Set(%q, a, 0): %q %v", s, u, e)
		}
	}
}

// P10.3: Del makes the slot of a name free, and tells its number.
func TestDel(t *testing.T) {
	s := slot("a", 5) + zeros(32) + slot("bc", math.MaxUint32) + slot(strings.Repeat("x", 27), 258)
	for _, x := range []struct {
		name string
		at   int
		ino  uint32
	}{{"a", 0, 5}, {"bc", 2, math.MaxUint32}, {strings.Repeat("x", 27), 3, 258}} {
		u, ino, e := Del(s, x.name)
		if want := s[:32*x.at] + zeros(32) + s[32*x.at+32:]; u != want || ino != x.ino || e != api.OK {
			t.Errorf("%q: %q %d %v, not %q", x.name, u, ino, e, want)
		}
	}
	// Sectors whose slots are both free stay.
	if u, ino, e := Del(slot("a", 5)+zeros(32), "a"); u != zeros(64) || ino != 5 || e != api.OK {
		t.Errorf("%q %d %v", u, ino, e)
	}
	for _, s := range contents() {
		for _, x := range List(s) {
			checkDel(t, s, x.Name)
		}
	}
}

// P10.3: which of Del's errors comes first: that of the text, ErrNone.
func TestDelWrong(t *testing.T) {
	for _, x := range faults() {
		for _, name := range []string{"a", "b", "none", "", "/", "..."} {
			if u, ino, e := Del(x.s, name); u != "" || ino != 0 || e != x.e {
				t.Errorf("Del(%q, %q): %q %d %v, not %v", x.s, name, u, ino, e, x.e)
			}
		}
	}
	for _, s := range []string{"", zeros(64), zeros(2304), content("a", "b"), content("a", ""), content(wide(72)...)} {
		for _, name := range []string{"none", "", ".", "..", "/", "\x00", "a\x00", zeros(27), strings.Repeat("y", 28), "aa", "A"} {
			if u, ino, e := Del(s, name); u != "" || ino != 0 || e != api.ErrNone {
				t.Errorf("Del(%q, %q): %q %d %v", s, name, u, ino, e)
			}
		}
	}
}

// P10.3: Trim takes the sectors at the end away whose slots are both free, and no others.
func TestTrim(t *testing.T) {
	full := content(wide(72)...)
	for _, x := range []struct{ s, u string }{
		{"", ""}, {zeros(64), ""}, {zeros(128), ""}, {zeros(2304), ""}, {full, full},
		{content("a", "b"), content("a", "b")},
		// Of a sector's slots only one is free.
		{content("a", ""), content("a", "")}, {content("", "a"), content("", "a")}, {content("a", "", "b", ""), content("a", "", "b", "")}, {content("a", "", "", "b"), content("a", "", "", "b")},
		{content("a", "", "", ""), content("a", "")}, {content("", "a", "", ""), content("", "a")}, {content("a", "b", "", ""), content("a", "b")}, {content("a", "b", "", "", "", ""), content("a", "b")},
		// A free sector stands ahead of one that is not.
		{content("", "", "a", ""), content("", "", "a", "")}, {content("", "", "", "a"), content("", "", "", "a")}, {content("a", "b", "", "", "c", "", "", ""), content("a", "b", "", "", "c", "")}, {content("", "", "", "a", "", "", "", ""), content("", "", "", "a")},
		// What a name's last byte, or a number's, is.
		{slot("a", 1<<24) + zeros(96), slot("a", 1<<24) + zeros(32)}, {zeros(32) + slot(strings.Repeat("x", 27), 1) + zeros(64), zeros(32) + slot(strings.Repeat("x", 27), 1)},
	} {
		if u, e := Trim(x.s); u != x.u || e != api.OK {
			t.Errorf("%q: %q %v, not %q", x.s, u, e, x.u)
		}
	}
	all := wide(72)
	for n := range 73 {
		s := content(without(all, func(at int) bool { return at >= n })...)
		if u, e := Trim(s); u != s[:(n+1)/2*64] || e != api.OK {
			t.Errorf("%d slots: %q %v", n, u, e)
		}
	}
	for _, s := range contents() {
		checkTrim(t, s)
		u, e := Trim(s)
		if again, f := Trim(u); again != u || e != api.OK || f != api.OK {
			t.Errorf("%q: %q, then %q", s, u, again)
		}
		if !slices.Equal(List(u), List(s)) {
			t.Errorf("%q: %v, not %v", s, List(u), List(s))
		}
	}
}

// P10.3: Trim of a text that is no content.
func TestTrimWrong(t *testing.T) {
	for _, x := range faults() {
		for _, s := range []string{x.s, x.s + zeros(64)} {
			if len(s) > len(x.s) && (len(x.s)%64 != 0 || len(s) > 2304) {
				continue
			}
			if u, e := Trim(s); u != "" || e != x.e {
				t.Errorf("%q: %q %v, not %v", s, u, e, x.e)
			}
		}
	}
}

// P10.1 to P10.3: each function of each content, and of each text that is none, against the definition.
func TestAll(t *testing.T) {
	texts := contents()
	for _, x := range faults() {
		texts = append(texts, x.s)
	}
	var entries []api.Entry
	for _, name := range []string{"", "a", "b", "new", ".", "/", "\x00", "\xff", strings.Repeat("x", 26), strings.Repeat("x", 27), strings.Repeat("x", 28)} {
		for _, ino := range []uint32{0, 1, 258, math.MaxUint32} {
			entries = append(entries, api.Entry{Name: name, Ino: ino})
		}
	}
	for _, s := range texts {
		if t.Failed() {
			return
		}
		if len(s) > 5000 {
			s = s[:5000]
		}
		checkText(t, s)
		for _, x := range entries {
			checkEntry(t, s, x.Name, x.Ino)
		}
	}
}

// A lot draws numbers, the same ones each time.
type lot uint32

// upTo draws one that is less than n.
func (v *lot) upTo(n int) int {
	*v = *v*1664525 + 1013904223
	return int(*v>>8) % n
}

// P10.1 to P10.3: contents of which some bytes are others.
func TestAllChanged(t *testing.T) {
	all := contents()
	v := lot(7)
	some := []byte{0, 1, 2, 26, 27, 28, '.', '/', 'a', 'x', 128, 255}
	have, form, ok := 0, 0, 0
	for range 30000 {
		b := []byte(all[v.upTo(len(all))])
		if len(b) == 0 {
			continue
		}
		for range 1 + v.upTo(3) {
			switch v.upTo(3) {
			case 0:
				b[v.upTo(len(b))] = some[v.upTo(len(some))]
			case 1: // A slot takes another one's place.
				from, to := v.upTo(len(b)/32)*32, v.upTo(len(b)/32)*32
				copy(b[to:to+32], b[from:from+32])
			default: // In the field that tells the length, or the number.
				b[v.upTo(len(b)/32)*32+v.upTo(6)] = some[v.upTo(len(some))]
			}
		}
		s := string(b)
		checkText(t, s)
		_, e := told(s)
		switch e {
		case api.OK:
			ok++
		case api.ErrHave:
			have++
		case api.ErrForm:
			form++
		}
		names := []string{"", "a", "new", string(b[5:6])}
		checkEntry(t, s, names[v.upTo(4)], uint32(v.upTo(3)))
		if t.Failed() {
			return
		}
	}
	if ok < 1000 || have < 1000 || form < 1000 {
		t.Errorf("%d %d %d", ok, have, form)
	}
}

// sectors gives how many sectors s and u both have that differ.
func sectors(s, u string) int {
	n := 0
	for from := 0; from < min(len(s), len(u)); from += 64 {
		if s[from:from+64] != u[from:from+64] {
			n++
		}
	}
	return n
}

// A book has a directory's text, and beside it what its entries must be: the number that each name got last, and the slot that it got.
type book struct {
	s   string
	ino map[string]uint32
	at  map[string]int
}

// holds holds the text against what it must be: each entry is found, where it was, and listed, and nothing else is.
func (b *book) holds(t *testing.T) {
	t.Helper()
	if e := Check(b.s); e != api.OK {
		t.Fatalf("%q: %v", b.s, e)
	}
	row := map[int]api.Entry{}
	for name, ino := range b.ino {
		if v, at, is := Find(b.s, name); v != ino || at != b.at[name] || !is {
			t.Fatalf("%q: %d %d %v, not %d %d", name, v, at, is, ino, b.at[name])
		}
		row[b.at[name]] = api.Entry{Name: name, Ino: ino}
	}
	var want []api.Entry
	for at := range 72 {
		x, is := row[at]
		if is {
			want = append(want, x)
		}
		own := zeros(32)
		if is {
			own = slot(x.Name, x.Ino)
		}
		if 32*at < len(b.s) && b.s[32*at:32*at+32] != own {
			t.Fatalf("slot %d: %q, not %q", at, b.s[32*at:32*at+32], own)
		}
	}
	if l := List(b.s); !slices.Equal(l, want) {
		t.Fatalf("%v, not %v", l, want)
	}
}

// change puts another text in the book, behind what a call was to do: at most one sector is another one, beside one that may have been appended.
func (b *book) change(t *testing.T, u string, e api.Errno, may bool) {
	t.Helper()
	if e != api.OK {
		t.Fatalf("%v", e)
	}
	more := len(u) - len(b.s)
	if more != 0 && !(may && more == 64) || sectors(b.s, u) > 1 || more == 64 && sectors(b.s, u) != 0 {
		t.Fatalf("%q became %q", b.s, u)
	}
	b.s = u
}

// add adds an entry, in the slot that is the first free one.
func (b *book) add(t *testing.T, name string, ino uint32) {
	t.Helper()
	taken := map[int]bool{}
	for _, at := range b.at {
		taken[at] = true
	}
	at := 0
	for taken[at] {
		at++
	}
	u, e := Add(b.s, name, ino)
	if at == 72 {
		if u != "" || e != api.ErrFull {
			t.Fatalf("%q: %q %v", name, u, e)
		}
		return
	}
	b.change(t, u, e, true)
	b.ino[name], b.at[name] = ino, at
}

// step does one thing, or what must be refused.
func (b *book) step(t *testing.T, do int, name string, ino uint32) {
	t.Helper()
	_, is := b.ino[name]
	switch {
	case do == 0 && is:
		if u, e := Add(b.s, name, ino); u != "" || e != api.ErrHave {
			t.Fatalf("%q: %q %v", name, u, e)
		}
	case do == 0:
		b.add(t, name, ino)
	case do == 1 && is:
		u, v, e := Del(b.s, name)
		if v != b.ino[name] {
			t.Fatalf("%q: %d, not %d", name, v, b.ino[name])
		}
		b.change(t, u, e, false)
		delete(b.ino, name)
		delete(b.at, name)
	case do == 1:
		if u, v, e := Del(b.s, name); u != "" || v != 0 || e != api.ErrNone {
			t.Fatalf("%q: %q %d %v", name, u, v, e)
		}
	case do == 2 && is:
		u, e := Set(b.s, name, ino)
		b.change(t, u, e, false)
		b.ino[name] = ino
	case do == 2:
		if u, e := Set(b.s, name, ino); u != "" || e != api.ErrNone {
			t.Fatalf("%q: %q %v", name, u, e)
		}
	default:
		u, e := Trim(b.s)
		if e != api.OK || !strings.HasPrefix(b.s, u) {
			t.Fatalf("%q became %q, %v", b.s, u, e)
		}
		b.s = u
	}
}

// P10.4: an added entry is found and listed until it is deleted, with the number that was set last; the slots of all others stay as they were; each change changes one sector at most.
func TestRuns(t *testing.T) {
	for run := range 24 {
		v := lot(run * 977)
		names := wide(6 + run%3*40)
		b := book{ino: map[string]uint32{}, at: map[string]int{}}
		for range 300 {
			// Some runs add more than they delete, so that all sectors are full at times.
			do := []int{0, 0, 1, 2, 3}[v.upTo(4+v.upTo(2))]
			if run%2 == 1 && do == 1 && v.upTo(3) > 0 {
				do = 0
			}
			b.step(t, do, names[v.upTo(len(names))], uint32(v.upTo(1<<20))<<uint(v.upTo(12))|1)
			b.holds(t)
		}
	}
}

// P10.4: a directory is filled up to its 72 slots, and emptied in another order; an entry that was deleted is added again.
func TestFill(t *testing.T) {
	for _, by := range []int{1, 5, 35, 71} {
		b := book{ino: map[string]uint32{}, at: map[string]int{}}
		all := wide(73)
		for k, name := range all {
			b.step(t, 0, name, uint32(k)+1)
			b.holds(t)
		}
		if len(b.s) != 2304 || len(b.ino) != 72 {
			t.Fatalf("%d bytes, %d entries", len(b.s), len(b.ino))
		}
		for k := range 72 {
			name := all[(k*by+3)%72]
			b.step(t, 2, name, math.MaxUint32-uint32(k))
			b.step(t, 1, name, 0)
			b.holds(t)
			b.step(t, 1, name, 0)
			b.step(t, 0, name, uint32(k)+500)
			b.holds(t)
			b.step(t, 1, name, 0)
			b.holds(t)
		}
		if b.s != zeros(2304) {
			t.Fatalf("%q", b.s)
		}
		b.step(t, 3, "", 0)
		if b.s != "" {
			t.Fatalf("%q", b.s)
		}
	}
}
