package inode

import (
	"bytes"
	"math"
	"slices"
	"strings"
	"testing"

	"lunette/api"
)

// mayBe tells whether x is valid, rule by rule as the chapter's definition has them: what the package is held against.
func mayBe(x api.Inode) bool {
	if x.Kind == 0 {
		return x.Links == 0 && x.Size == 0 && x.Direct[0] == 0 && x.Direct[1] == 0 && x.Direct[2] == 0 && x.Direct[3] == 0 && x.Ind == 0
	}
	if x.Kind > 2 || x.Links > 200 || x.Size > 2304 || x.Kind == 2 && x.Size%64 != 0 {
		return false
	}
	l := []uint16{x.Direct[0], x.Direct[1], x.Direct[2], x.Direct[3], x.Ind}
	for i, a := range l {
		if a != 0 && (slices.Contains(l[:i], a) || uint64(x.Size) <= 64*uint64(i)) {
			return false
		}
	}
	return true
}

// encoded gives the 32 bytes of x, each at its place, whether x is valid or not.
func encoded(x api.Inode) string {
	b := make([]byte, 32)
	b[0] = x.Kind
	b[2], b[3] = byte(x.Links%256), byte(x.Links/256)
	b[4], b[5], b[6], b[7] = byte(x.Size%256), byte(x.Size/256%256), byte(x.Size/65536%256), byte(x.Size/16777216)
	for i, v := range x.Direct {
		b[8+2*i], b[9+2*i] = byte(v%256), byte(v/256)
	}
	b[16], b[17] = byte(x.Ind%256), byte(x.Ind/256)
	return string(b)
}

// decoded gives the inode whose fields the 32 bytes have, each at its place, whatever the others are.
func decoded(s string) api.Inode {
	two := func(i int) uint16 { return uint16(s[i]) + 256*uint16(s[i+1]) }
	return api.Inode{
		Kind:   s[0],
		Links:  two(2),
		Size:   uint32(two(4)) + 65536*uint32(two(6)),
		Direct: [4]uint16{two(8), two(10), two(12), two(14)},
		Ind:    two(16),
	}
}

// listed gives the 64 bytes that list l.
func listed(l []uint16) string {
	b := make([]byte, 64)
	for i, v := range l {
		b[2*i], b[2*i+1] = byte(v%256), byte(v/256)
	}
	return string(b)
}

// file gives a file with one link.
func file(size uint32, ind uint16, direct ...uint16) api.Inode {
	x := api.Inode{Kind: api.KindFile, Links: 1, Size: size, Ind: ind}
	copy(x.Direct[:], direct)
	return x
}

// dir gives a directory with one link.
func dir(size uint32, ind uint16, direct ...uint16) api.Inode {
	x := file(size, ind, direct...)
	x.Kind = api.KindDir
	return x
}

// linked gives x with so many links.
func linked(x api.Inode, n uint16) api.Inode {
	x.Links = n
	return x
}

// as gives x as of that kind.
func as(x api.Inode, kind uint8) api.Inode {
	x.Kind = kind
	return x
}

// row gives n blocks, from the number from on.
func row(n int, from uint16) []uint16 {
	l := make([]uint16, n)
	for i := range l {
		l[i] = from + uint16(i)
	}
	return l
}

// sizes has those at which something begins or ends.
func sizes() []uint32 {
	return []uint32{0, 1, 63, 64, 65, 127, 128, 129, 191, 192, 193, 255, 256, 257, 319, 320, 321, 2239, 2240, 2241, 2303, 2304, 2305, 2367, 2368, 65535, 65536, 65537, 65536 + 65, 1 << 24, 1<<24 + 65, 1 << 31, math.MaxUint32 - 63, math.MaxUint32}
}

// inodes gives some of each kind, and of each combination of links, sizes and blocks: valid ones and others.
func inodes() []api.Inode {
	directs := [][4]uint16{
		{}, {1}, {255}, {256}, {65535}, {0, 1}, {0, 0, 1}, {0, 0, 0, 1}, {0, 0, 0, 65535}, {7, 9}, {9, 7}, {1, 0, 2}, {1, 2, 3}, {1, 2, 3, 4}, {0, 2, 3, 4}, {4, 3, 2, 1}, {0, 0, 5, 6},
		{1, 1}, {1, 0, 1}, {1, 0, 0, 1}, {0, 1, 1}, {0, 1, 0, 1}, {0, 0, 1, 1}, {1, 2, 2, 1}, {3, 3, 3, 3}, {65535, 65535}, {1, 257}, {256, 1}, {1, 256, 255, 65535},
	}
	var l []api.Inode
	for _, kind := range []uint8{0, 1, 2, 3, 128, 129, 255} {
		for _, links := range []uint16{0, 1, 2, 199, 200, 201, 255, 256, 257, 65535} {
			for _, size := range sizes() {
				for _, direct := range directs {
					for _, ind := range []uint16{0, 1, 2, 5, 255, 256, 65535} {
						l = append(l, api.Inode{Kind: kind, Links: links, Size: size, Direct: direct, Ind: ind})
					}
				}
			}
		}
	}
	return l
}

// good gives the valid ones of inodes.
func good() []api.Inode {
	return slices.DeleteFunc(inodes(), func(x api.Inode) bool { return !mayBe(x) })
}

// asBytes gives the text that has these bytes, and bytes 0 behind them, n in all.
func asBytes(n int, b ...byte) string {
	return string(b) + strings.Repeat("\x00", n-len(b))
}

// checkInode holds Check and Put of x against what is to come of it.
func checkInode(t *testing.T, x api.Inode, want api.Errno) {
	t.Helper()
	if e := Check(x); e != want {
		t.Errorf("Check(%v): %v, not %v", x, e, want)
	}
	s, e := Put(x)
	switch {
	case e != want:
		t.Errorf("Put(%v): %v, not %v", x, e, want)
	case e != api.OK && s != "":
		t.Errorf("Put(%v): %q beside %v", x, s, e)
	case e == api.OK && s != encoded(x):
		t.Errorf("Put(%v): %q, not %q", x, s, encoded(x))
	}
}

// checkGet holds Get of s against the inode, and the error, that are to come of it.
func checkGet(t *testing.T, s string, x api.Inode, e api.Errno) {
	t.Helper()
	if y, f := Get(s); y != x || f != e {
		t.Errorf("Get(%q): %v %v, not %v %v", s, y, f, x, e)
	}
}

// P7.1: Check and Put take valid inodes, and no others.
func TestCheckPut(t *testing.T) {
	for _, x := range []struct {
		x api.Inode
		e api.Errno
	}{
		{api.Inode{}, api.OK},
		{api.Inode{Kind: api.KindFile}, api.OK},
		{api.Inode{Kind: api.KindDir}, api.OK},
		{file(65, 0, 7, 9), api.OK},
		{file(65, 0, 7, 7), api.ErrArg},
		{dir(128, 0, 7, 9), api.OK},
		{file(2304, 40, 1, 2, 3, 4), api.OK},
		{dir(2304, 40, 1, 2, 3, 4), api.OK},
		// Links.
		{linked(file(65, 0, 7, 9), 0), api.OK},
		{linked(file(65, 0, 7, 9), 200), api.OK},
		{linked(file(65, 0, 7, 9), 201), api.ErrArg},
		{linked(file(65, 0, 7, 9), 256), api.ErrArg},
		{linked(file(65, 0, 7, 9), 65535), api.ErrArg},
		{linked(dir(64, 0, 7), 0), api.OK},
		{linked(dir(64, 0, 7), 200), api.OK},
		{linked(dir(64, 0, 7), 201), api.ErrArg},
		// Sizes whose pages have no block.
		{file(0, 0), api.OK},
		{file(1, 0), api.OK},
		{file(63, 0), api.OK},
		{file(64, 0), api.OK},
		{file(65, 0), api.OK},
		{file(128, 0), api.OK},
		{file(192, 0), api.OK},
		{file(193, 0), api.OK},
		{file(256, 0), api.OK},
		{file(257, 0), api.OK},
		{file(2303, 0), api.OK},
		{file(2304, 0), api.OK},
		{file(2305, 0), api.ErrArg},
		{file(2368, 0), api.ErrArg},
		{file(65536, 0), api.ErrArg},
		{file(65536+65, 0), api.ErrArg},
		{file(math.MaxUint32, 0), api.ErrArg},
		{dir(0, 0), api.OK},
		{dir(1, 0), api.ErrArg},
		{dir(63, 0), api.ErrArg},
		{dir(64, 0), api.OK},
		{dir(65, 0), api.ErrArg},
		{dir(96, 0), api.ErrArg},
		{dir(128, 0), api.OK},
		{dir(192, 0), api.OK},
		{dir(193, 0), api.ErrArg},
		{dir(256, 0), api.OK},
		{dir(257, 0), api.ErrArg},
		{dir(320, 0), api.OK},
		{dir(2240, 0), api.OK},
		{dir(2303, 0), api.ErrArg},
		{dir(2304, 0), api.OK},
		{dir(2305, 0), api.ErrArg},
		{dir(2368, 0), api.ErrArg},
		{dir(1<<31, 0), api.ErrArg},
		// Numbers of blocks.
		{file(64, 0, 1), api.OK},
		{file(64, 0, 255), api.OK},
		{file(64, 0, 256), api.OK},
		{file(64, 0, 65535), api.OK},
		{file(257, 65535, 1, 255, 256), api.OK},
		// Kinds that there are not.
		{as(file(65, 0, 7, 9), 3), api.ErrArg},
		{as(file(65, 0, 7, 9), 255), api.ErrArg},
		{as(dir(64, 0, 7), 128), api.ErrArg},
		{api.Inode{Kind: 3}, api.ErrArg},
		{api.Inode{Kind: 255}, api.ErrArg},
	} {
		checkInode(t, x.x, x.e)
	}
}

// P7.1: a free inode has nothing.
func TestFree(t *testing.T) {
	for _, v := range []uint16{1, 7, 200, 255, 256, 65535} {
		for i := range 4 {
			var x api.Inode
			x.Direct[i] = v
			checkInode(t, x, api.ErrArg)
			// With pages for that block, neither.
			x.Size = 2304
			checkInode(t, x, api.ErrArg)
		}
		checkInode(t, api.Inode{Links: v}, api.ErrArg)
		checkInode(t, api.Inode{Size: uint32(v)}, api.ErrArg)
		checkInode(t, api.Inode{Size: uint32(v) << 16}, api.ErrArg)
		checkInode(t, api.Inode{Ind: v}, api.ErrArg)
		checkInode(t, api.Inode{Ind: v, Size: 2304}, api.ErrArg)
	}
	checkInode(t, api.Inode{Size: 64}, api.ErrArg)
	checkInode(t, api.Inode{Size: 2304}, api.ErrArg)
	checkInode(t, as(file(65, 0, 7, 9), 0), api.ErrArg)
}

// P7.1: a block stands at no page behind the end: at the last page that a size has, and at the first one behind it.
func TestEnd(t *testing.T) {
	for k := range uint32(4) {
		for _, v := range []uint16{1, 255, 256, 65535} {
			x := api.Inode{Kind: api.KindFile, Links: 1}
			x.Direct[k] = v
			for _, size := range []uint32{0, 1, 64 * k / 2, max(64*k, 1) - 1, 64 * k} {
				x.Size = size
				want := api.ErrArg
				if size > 64*k {
					want = api.OK
				}
				checkInode(t, x, want)
			}
			for _, size := range []uint32{64*k + 1, 64*k + 63, 64*k + 64, 64*k + 65, 2304} {
				x.Size = size
				checkInode(t, x, api.OK)
			}
			// A directory's sizes.
			x.Kind = api.KindDir
			x.Size = 64 * k
			checkInode(t, x, api.ErrArg)
			x.Size = 64*k + 64
			checkInode(t, x, api.OK)
		}
	}
	for _, v := range []uint16{1, 255, 256, 65535} {
		for _, size := range []uint32{0, 1, 64, 192, 193, 255, 256} {
			checkInode(t, file(size, v), api.ErrArg)
		}
		for _, size := range []uint32{257, 319, 320, 321, 2303, 2304} {
			checkInode(t, file(size, v), api.OK)
		}
		checkInode(t, file(256, v, 2, 3, 4, 5), api.ErrArg)
		checkInode(t, file(257, v, 2, 3, 4, 5), api.OK)
		checkInode(t, dir(256, v), api.ErrArg)
		checkInode(t, dir(320, v), api.OK)
	}
}

// P7.1: no block is there twice, 0 is any number of times.
func TestTwice(t *testing.T) {
	for _, v := range []uint16{1, 7, 255, 256, 65535} {
		for i := range 4 {
			for j := range i {
				x := file(2304, 0)
				x.Direct[i], x.Direct[j] = v, v
				checkInode(t, x, api.ErrArg)
				checkInode(t, as(x, api.KindDir), api.ErrArg)
				// Among others, too.
				x = file(2304, 9, 2, 3, 4, 5)
				x.Direct[i], x.Direct[j] = v, v
				checkInode(t, x, api.ErrArg)
				// Another one in its place is well.
				x.Direct[j] = 10
				checkInode(t, x, api.OK)
				// Numbers alike in one byte are not one block.
				x.Direct[j] = v ^ 256
				checkInode(t, x, api.OK)
			}
			x := file(2304, v)
			x.Direct[i] = v
			checkInode(t, x, api.ErrArg)
			checkInode(t, as(x, api.KindDir), api.ErrArg)
			x.Ind = 10
			checkInode(t, x, api.OK)
			x.Ind, x.Direct[i] = v, 0
			checkInode(t, x, api.OK)
		}
	}
	for _, x := range []api.Inode{file(2304, 0), file(2304, 7), file(2304, 0, 0, 7), file(2304, 7, 1, 0, 0, 2), file(2304, 0, 0, 0, 7, 8), dir(2304, 0, 0, 7)} {
		checkInode(t, x, api.OK)
	}
}

// P7.1: Check and Put answer of many inodes what the definition says.
func TestCheckPutAll(t *testing.T) {
	n := 0
	for _, x := range inodes() {
		if t.Failed() {
			return
		}
		want := api.ErrArg
		if mayBe(x) {
			want = api.OK
			n++
		}
		checkInode(t, x, want)
	}
	if n < 1000 {
		t.Errorf("only %d valid ones", n)
	}
}

// P7.1: every field at its place.
func TestPutBytes(t *testing.T) {
	for _, x := range []struct {
		x api.Inode
		s string
	}{
		{api.Inode{}, asBytes(32)},
		{file(65, 0, 7, 9), asBytes(32, 1, 0, 1, 0, 65, 0, 0, 0, 7, 0, 9, 0)},
		{linked(dir(128, 0, 1, 2), 200), asBytes(32, 2, 0, 200, 0, 128, 0, 0, 0, 1, 0, 2, 0)},
		{api.Inode{Kind: api.KindFile}, asBytes(32, 1)},
		{api.Inode{Kind: api.KindDir}, asBytes(32, 2)},
		{linked(file(2304, 0x0b0a, 0x0201, 0x0403, 0x0605, 0x0807), 3), asBytes(32, 1, 0, 3, 0, 0, 9, 0, 0, 1, 2, 3, 4, 5, 6, 7, 8, 10, 11)},
		{file(257, 65535, 1, 255, 256, 1000), asBytes(32, 1, 0, 1, 0, 1, 1, 0, 0, 1, 0, 255, 0, 0, 1, 232, 3, 255, 255)},
	} {
		if s, e := Put(x.x); s != x.s || e != api.OK {
			t.Errorf("%v: %q %v, not %q", x.x, s, e, x.s)
		}
		checkGet(t, x.s, x.x, api.OK)
	}
}

// P7.1: Get takes 32 bytes, ErrEnd of fewer, ErrForm of more.
func TestGetLength(t *testing.T) {
	for _, x := range []api.Inode{{}, {Kind: api.KindDir}, file(65, 0, 7, 9), file(2304, 5, 1, 2, 3, 4)} {
		s := encoded(x)
		checkGet(t, s, x, api.OK)
		for n := range 32 {
			checkGet(t, s[:n], api.Inode{}, api.ErrEnd)
			checkGet(t, s[32-n:], api.Inode{}, api.ErrEnd)
		}
		for _, n := range []int{1, 2, 31, 32, 33, 1000} {
			checkGet(t, s+strings.Repeat("\x00", n), api.Inode{}, api.ErrForm)
			checkGet(t, s+strings.Repeat("\x01", n), api.Inode{}, api.ErrForm)
			checkGet(t, strings.Repeat("\x00", n)+s, api.Inode{}, api.ErrForm)
		}
		checkGet(t, s+s, api.Inode{}, api.ErrForm)
	}
	// A text that is too short is that ahead of all.
	checkGet(t, strings.Repeat("\xff", 31), api.Inode{}, api.ErrEnd)
	checkGet(t, strings.Repeat("\xff", 32), api.Inode{}, api.ErrForm)
	checkGet(t, strings.Repeat("\xff", 33), api.Inode{}, api.ErrForm)
	checkGet(t, strings.Repeat("\xff", 1<<20), api.Inode{}, api.ErrForm)
}

// P7.1: Get of bytes that differ from an inode's in one byte alone: all others that this one may be.
func TestGetBytes(t *testing.T) {
	for _, x := range []api.Inode{
		{}, {Kind: api.KindFile}, {Kind: api.KindDir},
		file(65, 0, 7, 9), file(64, 0), file(256, 0, 1, 2, 3, 4), file(257, 5, 1, 2, 3, 4), file(2304, 65535, 1, 255, 256, 257), file(2304, 0), linked(file(1, 0, 256), 200),
		dir(64, 0, 1), dir(128, 0, 1, 2), dir(256, 0), dir(2304, 5, 1, 2, 3, 4), linked(dir(0, 0), 200),
	} {
		s := encoded(x)
		for i := range s {
			taken := 0
			for v := range 256 {
				b := []byte(s)
				b[i] = byte(v)
				other := string(b)
				y := decoded(other)
				// The bytes that have no meaning are 0 in every encoding.
				if mayBe(y) && encoded(y) == other {
					checkGet(t, other, y, api.OK)
					taken++
					continue
				}
				checkGet(t, other, api.Inode{}, api.ErrForm)
			}
			if (i == 1 || i >= 18) && taken != 1 {
				t.Errorf("%v: byte %d: %d values taken", x, i, taken)
			}
		}
	}
}

// P7.1: Get gives no inode of bytes whose fields are no valid one's.
func TestGetInvalid(t *testing.T) {
	for _, x := range inodes() {
		if !t.Failed() && !mayBe(x) {
			checkGet(t, encoded(x), api.Inode{}, api.ErrForm)
		}
	}
	for _, x := range []api.Inode{
		{Kind: 3}, {Kind: 255}, {Links: 1}, {Size: 64}, {Direct: [4]uint16{1}}, {Direct: [4]uint16{0, 0, 0, 1}}, {Ind: 1},
		file(65, 0, 7, 7), linked(file(0, 0), 201), file(2305, 0), file(65536, 0), file(64, 0, 0, 1), file(256, 1), dir(65, 0), file(257, 7, 7),
	} {
		checkGet(t, encoded(x), api.Inode{}, api.ErrForm)
	}
}

// P7.2: how many pages a size has.
func TestPages(t *testing.T) {
	for _, x := range []struct {
		size uint32
		n    int
	}{
		{0, 0}, {1, 1}, {2, 1}, {63, 1}, {64, 1}, {65, 2}, {127, 2}, {128, 2}, {129, 3}, {192, 3}, {193, 4}, {256, 4}, {257, 5},
		{2240, 35}, {2241, 36}, {2303, 36}, {2304, 36}, {2305, 37}, {65535, 1024}, {65536, 1024}, {65537, 1025},
		{1 << 31, 1 << 25}, {1<<31 + 1, 1<<25 + 1},
		{math.MaxUint32 - 64, 1<<26 - 1}, {math.MaxUint32 - 63, 1<<26 - 1}, {math.MaxUint32 - 62, 1 << 26}, {math.MaxUint32, 1 << 26},
	} {
		if n := Pages(x.size); n != x.n {
			t.Errorf("%d: %d, not %d", x.size, n, x.n)
		}
	}
	// One page more behind each 64 bytes.
	n := 0
	for size := range uint32(5000) {
		if size%64 == 1 {
			n++
		}
		if k := Pages(size); k != n {
			t.Errorf("%d: %d, not %d", size, k, n)
		}
	}
}

// lists gives some lists of blocks that Tell takes.
func lists() [][]uint16 {
	l := [][]uint16{
		nil, {}, {0}, {1}, {255}, {256}, {257}, {65535}, {7, 9}, {9, 7}, {7, 7}, {0, 7}, {7, 0, 7}, {0, 0, 0}, {1, 256, 255, 65535}, {0x0201, 0x0403},
		make([]uint16, 31), make([]uint16, 32), slices.Repeat([]uint16{7}, 32), slices.Repeat([]uint16{65535}, 32),
	}
	for n := range 33 {
		l = append(l, row(n, 1), row(n, 250), row(n, 65500))
	}
	for i := range 32 {
		lone := make([]uint16, 32)
		lone[i] = 0x0102
		l = append(l, lone)
	}
	return l
}

// P7.2: Tell puts two bytes for each block, and 0s behind them.
func TestTell(t *testing.T) {
	for _, x := range []struct {
		l []uint16
		s string
	}{
		{nil, asBytes(64)},
		{[]uint16{}, asBytes(64)},
		{[]uint16{7}, asBytes(64, 7)},
		{[]uint16{7, 9}, asBytes(64, 7, 0, 9)},
		{[]uint16{7, 7}, asBytes(64, 7, 0, 7)},
		{[]uint16{0, 7}, asBytes(64, 0, 0, 7)},
		{[]uint16{0, 0}, asBytes(64)},
		{[]uint16{1, 255, 256, 65535}, asBytes(64, 1, 0, 255, 0, 0, 1, 255, 255)},
		{slices.Repeat([]uint16{0x0201}, 31), strings.Repeat("\x01\x02", 31) + "\x00\x00"},
		{slices.Repeat([]uint16{0x0201}, 32), strings.Repeat("\x01\x02", 32)},
	} {
		if s, e := Tell(x.l...); s != x.s || e != api.OK {
			t.Errorf("%v: %q %v, not %q", x.l, s, e, x.s)
		}
	}
	if s, e := Tell(7, 9); s != asBytes(64, 7, 0, 9) || e != api.OK {
		t.Errorf("%q %v", s, e)
	}
	if s, e := Tell(); s != asBytes(64) || e != api.OK {
		t.Errorf("%q %v", s, e)
	}
	for _, l := range lists() {
		if s, e := Tell(l...); s != listed(l) || e != api.OK {
			t.Errorf("%v: %q %v, not %q", l, s, e, listed(l))
		}
	}
}

// P7.2: Tell takes at most 32 blocks, whatever they are.
func TestTellMany(t *testing.T) {
	for _, n := range []int{33, 34, 63, 64, 65, 1000, 65536, 1 << 20} {
		for _, l := range [][]uint16{make([]uint16, n), row(n, 1), slices.Repeat([]uint16{7}, n)} {
			if s, e := Tell(l...); s != "" || e != api.ErrArg {
				t.Fatalf("%d blocks: %q %v", n, s, e)
			}
		}
	}
}

// P7.2: Told gives all 32 blocks, those that are 0 too.
func TestTold(t *testing.T) {
	for _, x := range []struct {
		s string
		l []uint16
	}{
		{asBytes(64), nil},
		{asBytes(64, 7), []uint16{7}},
		{asBytes(64, 0, 7), []uint16{7 * 256}},
		{asBytes(64, 7, 0, 9), []uint16{7, 9}},
		{asBytes(64, 7, 0, 7), []uint16{7, 7}},
		{asBytes(64, 1, 0, 255, 0, 0, 1, 255, 255), []uint16{1, 255, 256, 65535}},
		{strings.Repeat("\xff", 64), slices.Repeat([]uint16{65535}, 32)},
		{strings.Repeat("\x01\x02", 32), slices.Repeat([]uint16{0x0201}, 32)},
		{strings.Repeat("\x00", 62) + "\x01\x02", append(make([]uint16, 31), 0x0201)},
	} {
		want := make([]uint16, 32)
		copy(want, x.l)
		if l, e := Told(x.s); !slices.Equal(l, want) || e != api.OK {
			t.Errorf("%q: %v %v, not %v", x.s, l, e, want)
		}
	}
	for i := range 64 {
		for v := range 256 {
			b := make([]byte, 64)
			b[i] = byte(v)
			want := make([]uint16, 32)
			want[i/2] = uint16(v)
			if i%2 == 1 {
				want[i/2] = uint16(v) * 256
			}
			if l, e := Told(string(b)); !slices.Equal(l, want) || e != api.OK {
				t.Errorf("byte %d is %d: %v %v", i, v, l, e)
			}
		}
	}
}

// P7.2: Told takes 64 bytes, ErrEnd of fewer, ErrForm of more.
func TestToldLength(t *testing.T) {
	for _, c := range []string{"\x00", "\x07", "\xff"} {
		for n := range 64 {
			if l, e := Told(strings.Repeat(c, n)); len(l) != 0 || e != api.ErrEnd {
				t.Errorf("%d bytes: %v %v", n, l, e)
			}
		}
		for _, n := range []int{65, 66, 96, 127, 128, 1000, 1 << 20} {
			if l, e := Told(strings.Repeat(c, n)); len(l) != 0 || e != api.ErrForm {
				t.Errorf("%d bytes: %v %v", n, l, e)
			}
		}
	}
}

// P7.3: Get gives what was put, and unlike inodes have unlike bytes.
func TestGetInvertsPut(t *testing.T) {
	had := map[string]api.Inode{}
	for _, x := range good() {
		if t.Failed() {
			return
		}
		s, e := Put(x)
		if e != api.OK {
			t.Errorf("%v: %v", x, e)
		}
		checkGet(t, s, x, api.OK)
		if y, ok := had[s]; ok && y != x {
			t.Errorf("%v and %v: both %q", x, y, s)
		}
		had[s] = x
	}
}

// P7.3: Put gives the bytes that were read, of all texts of which Get takes some.
func TestPutInvertsGet(t *testing.T) {
	taken := 0
	for _, x := range good() {
		if t.Failed() {
			return
		}
		if x.Links > 1 {
			continue
		}
		s := encoded(x)
		for i := range s {
			for _, v := range []byte{0, 1, 64, 255} {
				b := []byte(s)
				b[i] = v
				y, e := Get(string(b))
				if e != api.OK {
					continue
				}
				taken++
				if back, f := Put(y); back != string(b) || f != api.OK {
					t.Errorf("%q: %v, %q %v", b, y, back, f)
				}
			}
		}
	}
	if taken < 1000 {
		t.Errorf("only %d taken", taken)
	}
}

// P7.3: Told gives what was told, and 0s behind it; lists that are unlike, but for these, have unlike bytes.
func TestToldInvertsTell(t *testing.T) {
	had := map[string][32]uint16{}
	for _, l := range lists() {
		var want [32]uint16
		copy(want[:], l)
		s, e := Tell(l...)
		back, f := Told(s)
		if e != api.OK || f != api.OK || !slices.Equal(back, want[:]) {
			t.Errorf("%v: %q %v, %v %v", l, s, e, back, f)
		}
		if other, ok := had[s]; ok && other != want {
			t.Errorf("%v and %v: both %q", l, other, s)
		}
		had[s] = want
	}
}

// P7.3: Tell gives the bytes that were read, of all texts of 64 bytes.
func TestTellInvertsTold(t *testing.T) {
	var texts []string
	for k := range 256 {
		b := make([]byte, 64)
		for i := range b {
			b[i] = byte(i*i*k + 7*i + k)
		}
		texts = append(texts, string(b), strings.Repeat(string(b[1:2]), 64))
	}
	for i := range 64 {
		b := bytes.Repeat([]byte{255}, 64)
		b[i] = 0
		texts = append(texts, string(b))
	}
	for _, s := range texts {
		l, e := Told(s)
		back, f := Tell(l...)
		if e != api.OK || f != api.OK || back != s {
			t.Errorf("%q: %v %v, %q %v", s, l, e, back, f)
		}
	}
}

// P7.2: what Told answers is new memory each time (R5).
func TestToldNew(t *testing.T) {
	s := listed(row(32, 250))
	l, _ := Told(s)
	other, _ := Told(s)
	for i := range l {
		l[i] = 1
	}
	_ = append(l, 1)
	if !slices.Equal(other, row(32, 250)) {
		t.Errorf("%v", other)
	}
	if again, e := Told(s); !slices.Equal(again, row(32, 250)) || e != api.OK {
		t.Errorf("%v %v", again, e)
	}
}

// P7.2: Tell leaves what it is given as it was, and keeps none of it (R5).
func TestTellKeepsOff(t *testing.T) {
	for _, n := range []int{0, 1, 31, 32, 33, 40} {
		own := row(64, 500)
		s, e := Tell(own[:n]...)
		if !slices.Equal(own, row(64, 500)) {
			t.Errorf("%d blocks: %v", n, own)
		}
		clear(own)
		again, f := Tell(row(64, 500)[:n]...)
		if s != again || e != f {
			t.Errorf("%d blocks: %q %v, then %q %v", n, s, e, again, f)
		}
	}
}
