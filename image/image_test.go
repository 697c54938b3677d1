package image

import (
	"fmt"
	"math"
	"slices"
	"strings"
	"testing"

	"lunette/api"
	"lunette/dev"
	"lunette/tx"
)

// file is one of so many bytes, with no block.
func file(size uint32) api.Inode { return api.Inode{Kind: api.KindFile, Links: 1, Size: size} }

// dir is a directory of so many bytes, with no block.
func dir(size uint32) api.Inode { return api.Inode{Kind: api.KindDir, Links: 1, Size: size} }

// letters gives 64 bytes, all of that letter.
func letters(c byte) string { return strings.Repeat(string([]byte{c}), 64) }

// list gives the sector of an indirect block that lists these, the k-th one at the place k.
func list(l ...uint16) string {
	b := make([]byte, 64)
	for k, v := range l {
		b[2*k], b[2*k+1] = byte(v%256), byte(v/256)
	}
	return string(b)
}

// geometries gives the least one, the greatest one, and some around the numbers of bits that fill sectors.
func geometries() []api.Geo {
	return []api.Geo{
		small, roomy,
		{Inodes: 2, Blocks: 8, Journal: 40},
		{Inodes: 3, Blocks: 511, Journal: 41},
		{Inodes: 255, Blocks: 512, Journal: 40},
		{Inodes: 9, Blocks: 1023, Journal: 256},
		{Inodes: 256, Blocks: 1024, Journal: 256},
	}
}

// badGeometries gives some that are not valid.
func badGeometries() []api.Geo {
	return []api.Geo{
		{},
		{Inodes: 1, Blocks: 16, Journal: 40}, {Inodes: 257, Blocks: 16, Journal: 40}, {Inodes: -8, Blocks: 16, Journal: 40},
		{Inodes: 8, Blocks: 7, Journal: 40}, {Inodes: 8, Blocks: 1025, Journal: 40}, {Inodes: 8, Blocks: -16, Journal: 40},
		{Inodes: 8, Blocks: 16, Journal: 39}, {Inodes: 8, Blocks: 16, Journal: 257}, {Inodes: 8, Blocks: 16, Journal: -40},
		{Inodes: math.MinInt, Blocks: 16, Journal: 40}, {Inodes: 8, Blocks: math.MaxInt, Journal: 40}, {Inodes: 8, Blocks: 16, Journal: math.MinInt},
	}
}

// TestExample: the chapter's.
func TestExample(t *testing.T) {
	r := newRig(t, small)
	r.gives([2]int{7, 16}, freeStep())
	x := letters('x')
	r.well(takeStep(2), setInodeStep(2, file(0)), resizeStep(2, 65), setPageStep(2, 1, x))
	r.gives("[1]", blocksStep(2))
	r.gives([2]int{6, 15}, freeStep())
	// One byte is within the size.
	r.gives("x"+zeros(63), pageStep(2, 1))
	r.gives(zeros(64), pageStep(2, 0))
}

// TestFormat: P11.1: each sector is that of a formatted disk, whatever was there, and durable.
func TestFormat(t *testing.T) {
	for _, g := range geometries() {
		want := formatted(g)
		d := filled(t, len(want))
		if e := Format(d, g); e != api.OK {
			t.Fatalf("Format(%v): %v", g, e)
		}
		for i := range want {
			now, _ := d.Read(i)
			durable, _ := d.Durable(i)
			if now != want[i] || durable != want[i] {
				t.Fatalf("%v: the sector %d has %q, durable %q, want %q", g, i, now, durable, want[i])
			}
		}
		if l := d.Loose(); len(l) != 0 {
			t.Errorf("%v: there are cached writes of %v", g, l)
		}
		d.Crash("")
		r := rigOn(t, g, d, want)
		r.same("a crash")
		r.gives([2]int{g.Inodes - 1, g.Blocks}, freeStep())
		r.gives(true, takenStep(1))
		r.gives(dir(0), inodeStep(1))
		r.gives("", textStep(1))
		r.gives(false, takenStep(2))
		r.gives(api.Inode{}, inodeStep(uint32(g.Inodes)))
	}
}

// TestFormatKnown: P11.1: the bytes of a formatted disk, told one by one.
func TestFormatKnown(t *testing.T) {
	d, _ := dev.New(63)
	if e := Format(d, small); e != api.OK {
		t.Fatal(e)
	}
	want := map[int]string{
		0:  "lunette1\x08\x00\x00\x00\x10\x00\x00\x00\x28\x00\x00\x00",
		41: "\x03",
		42: "\x01",
		43: "\x02\x00\x01",
	}
	for i := range 63 {
		if s, _ := d.Durable(i); s != want[i]+zeros(64-len(want[i])) {
			t.Errorf("the sector %d has %q", i, s)
		}
	}
}

// TestFormatRefused: P11.1: ErrNil, then ErrArg, then the device's error; the device stays as it was.
func TestFormatRefused(t *testing.T) {
	for _, g := range append(badGeometries(), small) {
		if e := Format(nil, g); e != api.ErrNil {
			t.Errorf("Format(nil, %v): %v", g, e)
		}
	}
	for _, sectors := range []int{8, 62, 63, 64, 4096} {
		for _, down := range []bool{false, true} {
			for _, g := range append(badGeometries(), small, roomy) {
				d := filled(t, sectors)
				want := api.ErrArg
				if g == small && sectors == 63 {
					want = api.OK
				}
				if down {
					d.Fuse(0)
				}
				if down && want == api.OK {
					want = api.ErrDown
				}
				before := d.Writes()
				if e := Format(d, g); e != want {
					t.Errorf("Format of %d sectors (%v), %v: %v, want %v", sectors, down, g, e, want)
				}
				if want != api.OK && d.Writes() != before {
					t.Errorf("Format of %d sectors (%v), %v: it has written", sectors, down, g)
				}
			}
		}
	}
}

// TestFormatFails: P11.1: the device's error, wherever it fails; a disk is formatted anew afterwards.
func TestFormatFails(t *testing.T) {
	want := formatted(small)
	whole := filled(t, len(want))
	before := whole.Writes()
	Format(whole, small)
	writes := int(whole.Writes() - before)
	for n := range writes + 2 {
		d := filled(t, len(want))
		d.Fuse(n)
		e := Format(d, small)
		if fails := n <= writes; fails && e != api.ErrDown || !fails && e != api.OK {
			t.Errorf("Format of a device that fails after %d writes of %d: %v", n, writes, e)
		}
		d.Crash("")
		if e := Format(d, small); e != api.OK {
			t.Errorf("Format afterwards: %v", e)
		}
		for i := range want {
			if s, _ := d.Durable(i); s != want[i] {
				t.Fatalf("Format afterwards: the sector %d has %q", i, s)
			}
		}
	}
}

// TestNew: P11.1: ErrNil, then ErrArg; otherwise an image, and nothing is read or written.
func TestNew(t *testing.T) {
	r := newRig(t, small)
	for _, g := range badGeometries() {
		if m, e := New(nil, g); m != nil || e != api.ErrNil {
			t.Errorf("New(nil, %v): %v, %v", g, m, e)
		}
		if m, e := New(r.a, g); m != nil || e != api.ErrArg {
			t.Errorf("New(%v): %v, %v", g, m, e)
		}
	}
	if m, e := New(nil, small); m != nil || e != api.ErrNil {
		t.Errorf("New(nil): %v, %v", m, e)
	}
	r.wrote("New")
	r.fail()
	r.a.Abort()
	for _, g := range geometries() {
		if m, e := New(r.a, g); m == nil || e != api.OK {
			t.Errorf("New(%v) of an aborted transaction on a failed device: %v, %v", g, m, e)
		}
	}
}

// TestOwn: P11.1: two images of one transaction see the same disk, two transactions don't.
func TestOwn(t *testing.T) {
	r := newRig(t, small)
	other, _ := New(r.a, small)
	b, _ := tx.Begin(r.d, r.j)
	apart, _ := New(b, small)
	r.well(takeStep(5), setInodeStep(5, file(7)))
	if x, e := other.Inode(5); x != file(7) || e != api.OK {
		t.Errorf("an image of the same transaction: %v, %v", x, e)
	}
	if x, e := apart.Inode(5); x != (api.Inode{}) || e != api.OK {
		t.Errorf("an image of another transaction: %v, %v", x, e)
	}
	r.commit()
	if x, e := apart.Inode(5); x != file(7) || e != api.OK {
		t.Errorf("an image of another transaction, behind the commit: %v, %v", x, e)
	}
}

// TestNil: every method of a nil image answers ErrNil, whatever else it is passed.
func TestNil(t *testing.T) {
	var m *Image
	var l []step
	for _, ino := range []uint32{0, 1, 9, math.MaxUint32} {
		l = append(l, inodeStep(ino), setInodeStep(ino, dir(1)), setInodeStep(ino, file(1)), takenStep(ino), takeStep(ino), giveStep(ino), takenBlockStep(uint16(ino)), giveBlockStep(uint16(ino)),
			pageStep(ino, -1), pageStep(ino, 0), setPageStep(ino, 36, ""), setPageStep(ino, 0, letters('x')), resizeStep(ino, 1), resizeStep(ino, 5000), textStep(ino), enterStep(ino, "", 0), enterStep(ino, "a", 2), leaveStep(ino, ""), leaveStep(ino, "a"), blocksStep(ino))
	}
	for _, s := range append(l, blockStep(), freeStep()) {
		v, e := s.real(m)
		if e != api.ErrNil || v != nil && !slices.Contains([]string{"0", "false", "", "[]", "[0 0]", fmt.Sprint(api.Inode{})}, fmt.Sprint(v)) {
			t.Errorf("%s of nil: %v, %v", s.what, v, e)
		}
	}
}

// TestInodes: P11.2: the inodes that there are, and how they are stored.
func TestInodes(t *testing.T) {
	for _, g := range geometries() {
		r := newRig(t, g)
		last := uint32(g.Inodes)
		for _, ino := range []uint32{0, last + 1, last + 2, 1 << 16, 1<<16 + 1, 1 << 31, 1<<31 + 1, math.MaxUint32} {
			for _, s := range []step{inodeStep(ino), setInodeStep(ino, file(1)), takenStep(ino), takeStep(ino), giveStep(ino), pageStep(ino, 0), setPageStep(ino, 0, letters('x')), resizeStep(ino, 0), textStep(ino), enterStep(ino, "a", 1), leaveStep(ino, "a"), blocksStep(ino)} {
				r.refused(api.ErrArg, s)
			}
		}
		for _, ino := range []uint32{1, 2, last - 1, last} {
			r.again()
			x := api.Inode{Kind: api.KindFile, Links: 200, Size: 2304, Direct: [4]uint16{uint16(g.Blocks), 1, 0, 2}, Ind: 7}
			r.well(setInodeStep(ino, x))
			sector, _ := r.now.slot(ino)
			r.wrote("SetInode", sector)
			r.gives(x, inodeStep(ino))
			for _, beside := range []uint32{1, 2, 3, last - 2, last - 1, last} {
				if beside != ino && beside >= 1 && int(beside) <= g.Inodes {
					r.do(inodeStep(beside))
				}
			}
			r.well(setInodeStep(ino, api.Inode{}))
			r.gives(api.Inode{}, inodeStep(ino))
		}
	}
}

// TestSetInodeRefused: P11.2: inodes that are not valid are not stored.
func TestSetInodeRefused(t *testing.T) {
	r := newRig(t, small)
	for _, x := range []api.Inode{
		{Kind: 3}, {Kind: 255}, {Links: 1}, {Size: 1}, {Ind: 1}, {Direct: [4]uint16{0, 0, 0, 1}},
		{Kind: api.KindFile, Links: 201}, {Kind: api.KindFile, Size: 2305}, {Kind: api.KindFile, Size: math.MaxUint32},
		{Kind: api.KindDir, Size: 1}, {Kind: api.KindDir, Size: 65}, {Kind: api.KindDir, Size: 2368},
		{Kind: api.KindFile, Size: 128, Direct: [4]uint16{3, 3}}, {Kind: api.KindFile, Size: 257, Direct: [4]uint16{3}, Ind: 3},
		{Kind: api.KindFile, Size: 64, Direct: [4]uint16{0, 3}}, {Kind: api.KindFile, Size: 256, Ind: 3}, {Kind: api.KindFile, Direct: [4]uint16{1}},
	} {
		for ino := range uint32(10) {
			r.refused(api.ErrArg, setInodeStep(ino, x))
		}
	}
	// What is valid is not asked whether the geometry has its blocks.
	r.well(setInodeStep(8, api.Inode{Kind: api.KindFile, Size: 2304, Direct: [4]uint16{17, 65535, 0, 100}, Ind: 1024}))
}

// TestTaken: P11.2: each inode is allocated, and deallocated, by itself; what is and what isn't already is told.
func TestTaken(t *testing.T) {
	for _, g := range geometries() {
		r := newRig(t, g)
		last := uint32(g.Inodes)
		r.refused(api.ErrHave, takeStep(1))
		for _, ino := range []uint32{2, 3, 7, 8, 9, 15, 16, 63, 64, 255, 256, last - 1, last} {
			if ino < 2 || ino > last {
				continue
			}
			r.again()
			r.gives(false, takenStep(ino))
			r.refused(api.ErrNone, giveStep(ino))
			r.well(takeStep(ino))
			r.wrote("Take", r.now.imap())
			r.gives(true, takenStep(ino))
			r.refused(api.ErrHave, takeStep(ino))
			r.gives([2]int{g.Inodes - 2, g.Blocks}, freeStep())
			r.gives(api.Inode{}, inodeStep(ino))
			r.well(setInodeStep(ino, file(100)), giveStep(ino))
			r.gives(false, takenStep(ino))
			r.gives(api.Inode{}, inodeStep(ino))
			r.refused(api.ErrNone, giveStep(ino))
			r.well(takeStep(ino))
		}
	}
}

// TestGive: P11.2: an inode that is deallocated becomes free, also the root, and one that was none; the one beside it, and blocks, stay.
func TestGive(t *testing.T) {
	r := newRig(t, small)
	r.well(takeStep(3), setInodeStep(3, file(65)), setPageStep(3, 1, letters('x')), takeStep(4), setInodeStep(4, file(9)))
	r.commit()
	sector, _ := r.now.slot(3)
	r.well(giveStep(3))
	r.wrote("Give", r.now.imap(), sector)
	r.gives(api.Inode{}, inodeStep(3))
	r.gives(file(9), inodeStep(4))
	r.gives(true, takenBlockStep(1))
	r.well(giveStep(1))
	r.gives(api.Inode{}, inodeStep(1))
	r.again()
	r.well(writeStep(sector, strings.Repeat("\xff", 64)))
	r.refused(api.ErrForm, inodeStep(3))
	r.well(giveStep(3))
	r.gives(api.Inode{}, inodeStep(3))
	r.refused(api.ErrForm, inodeStep(4))
	// An inode that is deallocated may be one all the same: the two are told apart.
	r.well(setInodeStep(3, file(1)))
	r.refused(api.ErrNone, giveStep(3))
	r.gives(file(1), inodeStep(3))
}

// TestBlocksTaken: P11.2: the lowest block is allocated, with bytes 0, till there is none; each is given back by itself, with its bytes.
func TestBlocksTaken(t *testing.T) {
	for _, g := range geometries() {
		g.Journal = 256
		r := newRig(t, g)
		last := uint16(g.Blocks)
		for _, b := range []uint16{0, last + 1, 1 << 15, math.MaxUint16} {
			r.refused(api.ErrArg, takenBlockStep(b))
			r.refused(api.ErrArg, giveBlockStep(b))
		}
		for b := uint16(1); b <= last; b++ {
			if b%100 == 0 {
				r.commit()
			}
			if b <= 3 || b%64 <= 1 || b >= last-1 {
				r.gives(false, takenBlockStep(b))
				r.refused(api.ErrNone, giveBlockStep(b))
				r.well(writeStep(r.now.blockAt(b), letters('g')))
				r.gives(b, blockStep())
				r.gives(true, takenBlockStep(b))
				r.gives([2]int{g.Inodes - 1, g.Blocks - int(b)}, freeStep())
			} else if got, e := r.m.Block(); got != b || e != api.OK {
				t.Fatalf("%v: Block: %d, %v, want %d", g, got, e, b)
			} else {
				r.now.block()
			}
		}
		r.commit()
		r.refused(api.ErrFull, blockStep())
		for _, b := range []uint16{1, 2, 7, 8, 9, 511, 512, 513, 1022, 1023, 1024, last - 1, last} {
			if b > last {
				continue
			}
			r.well(writeStep(r.now.blockAt(b), letters('h')))
			r.commit()
			r.well(giveBlockStep(b))
			r.wrote("GiveBlock", r.now.bmap()+int(b)/512)
			r.refused(api.ErrNone, giveBlockStep(b))
			r.gives([2]int{g.Inodes - 1, 1}, freeStep())
			r.gives(b, blockStep())
			r.wrote("Block", r.now.bmap()+int(b)/512, r.now.blockAt(b))
			r.refused(api.ErrFull, blockStep())
		}
	}
}

// TestNotFormatted: P11.2: no number has the bit 0, nor one that is behind the last one, whatever they are: also on a disk that nobody formatted.
func TestNotFormatted(t *testing.T) {
	for _, fill := range []string{zeros(64), "\xfe" + strings.Repeat("\xff", 63), "\x01" + zeros(63), strings.Repeat("\xff", 64), "\x02" + zeros(63)} {
		for _, g := range geometries() {
			l := formatted(g)
			d, _ := dev.New(len(l))
			for i := range l {
				l[i] = zeros(64)
				if i > g.Journal {
					l[i] = fill
				}
				d.Write(i, l[i])
			}
			r := rigOn(t, g, d, l)
			r.do(freeStep())
			r.do(blockStep())
			r.do(freeStep())
			for n := range uint32(4) {
				r.do(takenStep(n))
				r.do(takenBlockStep(uint16(n)))
				r.do(inodeStep(n))
			}
			r.do(giveBlockStep(uint16(g.Blocks)))
			r.do(blockStep())
			r.do(takeStep(uint32(g.Inodes)))
			r.do(giveStep(uint32(g.Inodes)))
			r.do(freeStep())
		}
	}
}

// TestDevices: an image of a disk that its device doesn't hold answers the transaction's error where a sector is missing.
func TestDevices(t *testing.T) {
	for _, sectors := range []int{41, 42, 43, 44, 46, 47, 48, 50, 62, 63, 64} {
		d, _ := dev.New(sectors)
		l := formatted(small)
		for i := range sectors {
			if i < len(l) && (i < 1 || i > small.Journal) {
				d.Write(i, l[i])
			}
		}
		for len(l) < sectors {
			l = append(l, zeros(64))
		}
		r := rigOn(t, small, d, l[:sectors])
		for _, s := range sweep() {
			r.do(s)
			r.again()
		}
		if sectors < 47 {
			continue
		}
		// The blocks of these inodes, or those that they need, may be missing.
		r.well(setInodeStep(2, api.Inode{Kind: api.KindFile, Size: 2304, Direct: [4]uint16{16, 3}}), setInodeStep(3, api.Inode{Kind: api.KindDir, Size: 2304, Direct: [4]uint16{1, 15}, Ind: 16}))
		for b := 1; b <= sectors-47 && b <= 16; b++ {
			r.well(blockStep())
		}
		r.commit()
		for _, s := range sweep() {
			r.do(s)
			r.again()
		}
	}
}

// TestPages: P11.3: pages with a block and without one; what is behind the size is bytes 0.
func TestPages(t *testing.T) {
	r := newRig(t, roomy)
	for _, size := range []uint32{1, 63, 64, 65, 127, 128, 192, 193, 255, 256, 257, 319, 320, 321, 2240, 2241, 2303, 2304} {
		r.again()
		r.well(takeStep(3), setInodeStep(3, file(size)))
		for _, page := range []int{35, 0, 4, 3, 1, 34, 5, 2} {
			if 64*page >= int(size) {
				r.refused(api.ErrArg, setPageStep(3, page, letters('x')))
				r.gives(zeros(64), pageStep(3, page))
				continue
			}
			r.gives(zeros(64), pageStep(3, page))
			s := letters(byte('A' + page))
			r.well(setPageStep(3, page, s))
			within := min(64, int(size)-64*page)
			r.gives(s[:within]+zeros(64-within), pageStep(3, page))
			r.well(setPageStep(3, page, letters('z')))
			r.gives(letters('z')[:within]+zeros(64-within), pageStep(3, page))
		}
		r.do(blocksStep(3))
		r.do(freeStep())
	}
}

// TestSetPageWritten: P11.3: which sectors are written: the inode's and the page's, whether they change or not; and those of what is allocated.
func TestSetPageWritten(t *testing.T) {
	r := newRig(t, small)
	table, block := r.now.table()+1, r.now.data()-1
	r.well(takeStep(3), setInodeStep(3, file(2304)))
	r.commit()
	r.well(setPageStep(3, 2, letters('x')))
	r.wrote("SetPage of a page without a block", 42, table, block+1)
	r.commit()
	r.well(setPageStep(3, 2, letters('x')))
	r.wrote("SetPage with the same bytes", table, block+1)
	r.commit()
	r.well(setPageStep(3, 2, letters('y')))
	r.wrote("SetPage of a page with a block", table, block+1)
	r.commit()
	r.well(setPageStep(3, 4, letters('x')))
	r.wrote("SetPage of the first page of the indirect block", 42, table, block+2, block+3)
	r.gives("[1 3 2]", blocksStep(3))
	r.commit()
	r.well(setPageStep(3, 35, letters('x')))
	r.wrote("SetPage of another page of the indirect block", 42, table, block+2, block+4)
	r.gives("[1 3 4 2]", blocksStep(3))
	r.commit()
	r.well(setPageStep(3, 35, letters('x')))
	r.wrote("SetPage of a page that is listed", table, block+4)
	r.gives(letters('x'), pageStep(3, 35))
	r.gives(letters('x'), pageStep(3, 4))
	r.gives(letters('y'), pageStep(3, 2))
}

// TestSetPageFull: P11.3: with too few blocks left there is ErrFull.
func TestSetPageFull(t *testing.T) {
	for left := range 4 {
		for _, x := range []api.Inode{file(2304), {Kind: api.KindFile, Size: 2304, Ind: 1}, {Kind: api.KindFile, Size: 2304, Direct: [4]uint16{0, 0, 0, 2}}} {
			for page := range 37 {
				r := newRig(t, small)
				r.well(takeStep(2), setInodeStep(2, x))
				for range 16 {
					r.well(blockStep())
				}
				for b := range left {
					r.well(giveBlockStep(uint16(3 + 4*b)))
				}
				r.commit()
				needed := 1
				if page >= 4 && x.Ind == 0 {
					needed = 2
				}
				if page == 3 && x.Direct[3] != 0 {
					needed = 0
				}
				s := setPageStep(2, page, letters('x'))
				switch {
				case page == 36:
					r.refused(api.ErrArg, s)
				case needed > left:
					r.refused(api.ErrFull, s)
					// What an ErrFull leaves open is undone with its transaction.
					r.gives([2]int{6, left}, freeStep())
				default:
					r.well(s)
					r.gives([2]int{6, left - needed}, freeStep())
					r.gives(letters('x'), pageStep(2, page))
				}
			}
		}
	}
}

// TestResize: P11.3: from each size to each size, with all pages set, or some.
func TestResize(t *testing.T) {
	sizes := []uint32{0, 1, 63, 64, 65, 128, 191, 192, 255, 256, 257, 319, 320, 321, 640, 2239, 2240, 2241, 2303, 2304}
	for _, set := range []func(page int) bool{
		func(int) bool { return true },
		func(int) bool { return false },
		func(page int) bool { return page%2 == 1 },
		func(page int) bool { return page < 4 },
		func(page int) bool { return page >= 4 && page != 9 },
	} {
		r := newRig(t, roomy)
		for _, from := range sizes {
			r.again()
			r.well(takeStep(3), setInodeStep(3, file(from)))
			for page := range 36 {
				if set(page) && 64*page < int(from) {
					r.well(setPageStep(3, page, letters(byte('A'+page))))
				}
			}
			ready := r.now
			for _, to := range append(sizes, 2305, 2368, 1<<31, math.MaxUint32-63, math.MaxUint32) {
				r.resume(ready)
				if to > 2304 {
					r.refused(api.ErrArg, resizeStep(3, to))
					continue
				}
				r.well(resizeStep(3, to))
				for _, page := range []int{0, 1, 2, 3, 4, 5, 9, 34, 35} {
					r.do(pageStep(3, page))
				}
				r.do(blocksStep(3))
				r.do(freeStep())
				// What was cut off is not there any more when it grows again.
				r.well(resizeStep(3, 2304))
				r.do(pageStep(3, int(to/64)))
				r.well(resizeStep(3, 0))
				r.gives("[]", blocksStep(3))
				r.gives([2]int{6, 80}, freeStep())
			}
		}
	}
}

// TestResizeWritten: P11.3: which sectors are written: the inode's always; that in which the new end lies, if it has a block; and those of what is deallocated.
func TestResizeWritten(t *testing.T) {
	const bmap, table, block = 122, 124, 126 // block: the sector ahead of that of the block 1
	for _, c := range []struct {
		size       uint32
		want, more []int // by the first Resize, and by another one to the same size
	}{
		{2304, []int{table}, []int{table}},
		{2303, []int{table}, []int{table}},
		{2240, []int{table}, []int{table}},
		{449, []int{table}, []int{table}},
		{448, []int{table}, []int{table}},
		{447, []int{table, block + 5}, []int{table, block + 5}},
		{385, []int{table, block + 5}, []int{table, block + 5}},
		{384, []int{bmap, table, block + 3}, []int{table}},
		{383, []int{bmap, table, block + 3}, []int{table}},
		{320, []int{bmap, table, block + 3}, []int{table}},
		{319, []int{bmap, table, block + 3, block + 4}, []int{table, block + 4}},
		{257, []int{bmap, table, block + 3, block + 4}, []int{table, block + 4}},
		{256, []int{bmap, table}, []int{table}},
		{255, []int{bmap, table}, []int{table}},
		{129, []int{bmap, table}, []int{table}},
		{128, []int{bmap, table}, []int{table}},
		{127, []int{bmap, table, block + 2}, []int{table, block + 2}},
		{64, []int{bmap, table}, []int{table}},
		{63, []int{bmap, table, block + 1}, []int{table, block + 1}},
		{1, []int{bmap, table, block + 1}, []int{table, block + 1}},
		{0, []int{bmap, table}, []int{table}},
	} {
		r := newRig(t, roomy)
		r.well(takeStep(3), setInodeStep(3, file(2304)))
		// The blocks 1 and 2, 4 and 5; 3 lists.
		for _, page := range []int{0, 1, 4, 6} {
			r.well(setPageStep(3, page, letters('x')))
		}
		r.commit()
		r.well(resizeStep(3, c.size))
		r.wrote(fmt.Sprintf("Resize to %d", c.size), c.want...)
		r.commit()
		r.well(resizeStep(3, c.size))
		r.wrote(fmt.Sprintf("Resize to %d once more", c.size), c.more...)
		r.commit()
		r.well(resizeStep(3, 2304))
		r.wrote(fmt.Sprintf("Resize from %d to 2304", c.size), table)
	}
}

// TestResizeKept: P11.3: what is ahead of the end stays, what is behind it is 0 when the file grows again, within a page and beyond.
func TestResizeKept(t *testing.T) {
	r := newRig(t, small)
	r.well(takeStep(2), setInodeStep(2, file(0)), resizeStep(2, 200), setPageStep(2, 1, letters('x')), setPageStep(2, 3, letters('y')))
	r.gives("yyyyyyyy"+zeros(56), pageStep(2, 3))
	r.well(resizeStep(2, 70))
	r.gives("xxxxxx"+zeros(58), pageStep(2, 1))
	r.gives(zeros(64), pageStep(2, 3))
	r.gives("[1]", blocksStep(2))
	r.well(resizeStep(2, 90))
	r.gives("xxxxxx"+zeros(58), pageStep(2, 1))
	r.well(resizeStep(2, 2304))
	r.gives("xxxxxx"+zeros(58), pageStep(2, 1))
	r.gives(zeros(64), pageStep(2, 3))
	r.gives(zeros(64), pageStep(2, 35))
	r.well(setPageStep(2, 35, letters('z')))
	r.gives("[1 3 2]", blocksStep(2))
	r.well(resizeStep(2, 64))
	r.gives("[]", blocksStep(2))
	r.gives([2]int{6, 16}, freeStep())
}

// TestNone: P11.3, P11.4: what there is not is not changed: an inode that is free, allocated or not; a file is no directory.
func TestNone(t *testing.T) {
	r := newRig(t, small)
	r.well(takeStep(3), setInodeStep(4, file(64)), takeStep(5), setInodeStep(5, file(0)), setInodeStep(6, dir(64)))
	for _, ino := range []uint32{2, 3, 7, 8} {
		for _, s := range []step{pageStep(ino, 0), pageStep(ino, -1), setPageStep(ino, 0, letters('x')), setPageStep(ino, 40, ""), resizeStep(ino, 0), resizeStep(ino, 9999), textStep(ino), enterStep(ino, "a", 1), enterStep(ino, "", 0), leaveStep(ino, "a")} {
			r.refused(api.ErrNone, s)
		}
		r.gives("[]", blocksStep(ino))
	}
	for _, ino := range []uint32{4, 5} {
		for _, s := range []step{textStep(ino), enterStep(ino, "a", 1), enterStep(ino, "", 0), leaveStep(ino, "a"), leaveStep(ino, "")} {
			r.refused(api.ErrNotDir, s)
		}
	}
	// Whether an inode is allocated is not asked.
	r.well(setPageStep(4, 0, letters('x')), resizeStep(4, 10), enterStep(6, "a", 1))
	r.gives(uint32(1), leaveStep(6, "a"))
}

// TestDirSizes: P11.3: a directory has whole pages.
func TestDirSizes(t *testing.T) {
	r := newRig(t, small)
	for size := range uint32(2500) {
		want := api.OK
		if size%64 != 0 || size > 2304 {
			want = api.ErrArg
		}
		r.refused(want, resizeStep(1, size))
		if want == api.OK {
			r.gives(zeros(int(size)), textStep(1))
		}
	}
}

// TestEnter: P11.4: entries fill a directory up to its last slot, growing page by page, and leave it one by one.
func TestEnter(t *testing.T) {
	r := newRig(t, roomy)
	name := func(k int) string { return fmt.Sprintf("n%d", k) }
	for k := range 72 {
		r.well(enterStep(1, name(k), uint32(100+k)))
		x, _ := r.m.Inode(1)
		if x.Size != uint32(64*(k/2+1)) {
			t.Fatalf("with %d entries the size is %d", k+1, x.Size)
		}
		r.refused(api.ErrHave, enterStep(1, name(k), 7))
		r.commit()
	}
	r.refused(api.ErrFull, enterStep(1, "one more", 7))
	r.gives([2]int{7, 80 - 37}, freeStep())
	for k := range 72 {
		gone := k * 5 % 72
		r.gives(uint32(100+gone), leaveStep(1, name(gone)))
		r.refused(api.ErrNone, leaveStep(1, name(gone)))
	}
	// Nothing is cut off.
	r.gives(zeros(2304), textStep(1))
	r.gives([2]int{7, 80 - 37}, freeStep())
	r.well(enterStep(1, "a", 2))
	r.well(resizeStep(1, 0))
	r.gives([2]int{7, 80}, freeStep())
}

// TestEnterWritten: P11.4: which sectors are written: those of the page whose content changes, or is there anew, and of the inode; and of what is allocated.
func TestEnterWritten(t *testing.T) {
	r := newRig(t, small)
	const imap, bmap, table, block = 41, 42, 43, 46
	r.well(enterStep(1, "a", 2))
	r.wrote("Enter into the empty root", bmap, table, block+1)
	r.gives("\x02\x00\x00\x00\x01a"+zeros(58), textStep(1))
	r.commit()
	r.well(enterStep(1, "b", 258))
	r.wrote("Enter into a free slot", table, block+1)
	r.commit()
	r.well(enterStep(1, "c", 4))
	r.wrote("Enter into a page more", bmap, table, block+2)
	r.gives(dir(128).Size, step{"Size", true,
		func(m *Image) (any, api.Errno) { x, e := m.Inode(1); return x.Size, e },
		func(p *plain) any { return p.inode(1).Size }})
	r.commit()
	r.gives(uint32(258), leaveStep(1, "b"))
	r.wrote("Leave", table, block+1)
	r.gives("\x02\x00\x00\x00\x01a"+zeros(26)+zeros(32)+"\x04\x00\x00\x00\x01c"+zeros(58), textStep(1))
	r.commit()
	r.gives(uint32(4), leaveStep(1, "c"))
	r.wrote("Leave of a page's last entry", table, block+2)
	r.commit()
	// The first free slot is in the page 0.
	r.well(enterStep(1, strings.Repeat("x", 27), math.MaxUint32))
	r.wrote("Enter into a slot that became free", table, block+1)
	r.commit()
	// A page that has no block, since the directory was resized.
	r.well(resizeStep(1, 256))
	r.wrote("Resize", table)
	r.well(enterStep(1, "d", 4), enterStep(1, "e", 5))
	r.commit()
	r.well(enterStep(1, "f", 6))
	r.wrote("Enter into a page without a block", bmap, table, block+3)
	r.commit()
	r.well(enterStep(1, "g", 7), enterStep(1, "h", 8), enterStep(1, "i", 9))
	r.commit()
	r.well(enterStep(1, "j", 10))
	r.wrote("Enter into the first page of the indirect block", bmap, table, block+5, block+6)
	r.commit()
	r.well(enterStep(1, "k", 11), enterStep(1, "l", 12))
	r.commit()
	r.well(leaveStep(1, "k"))
	r.wrote("Leave of a page of the indirect block", table, block+6)
	r.commit()
	r.well(enterStep(1, "m", 13), enterStep(1, "n", 14), enterStep(1, "o", 15))
	r.wrote("Enter into several pages", bmap, table, block+5, block+6, block+7, block+8)
}

// TestEnterRefused: P11.4: the error of layer 10 comes behind that of Text, and nothing is written.
func TestEnterRefused(t *testing.T) {
	r := newRig(t, small)
	long := strings.Repeat("x", 28)
	r.well(enterStep(1, "a", 2), enterStep(1, "b", 3))
	r.commit()
	for _, name := range []string{"", ".", "..", "x/y", "/", "x\x00", long} {
		r.refused(api.ErrArg, enterStep(1, name, 2))
		r.refused(api.ErrNone, leaveStep(1, name))
	}
	r.refused(api.ErrArg, enterStep(1, "c", 0))
	r.refused(api.ErrHave, enterStep(1, "a", 9))
	r.refused(api.ErrArg, enterStep(1, "a", 0))
	r.refused(api.ErrNone, leaveStep(1, "c"))
	r.wrote("what was refused")
	// Whose inode an entry has is not asked.
	r.well(enterStep(1, "c", 100))
	r.gives(uint32(100), leaveStep(1, "c"))
	for _, s := range []string{
		"\x02\x00\x00\x00\x00" + zeros(59),
		"\x00\x00\x00\x00\x01a" + zeros(58),
		"\x02\x00\x00\x00\x01a" + zeros(25) + "x" + zeros(32),
		"\x02\x00\x00\x00\x02.." + zeros(57),
		zeros(63) + "x",
	} {
		r.again()
		r.well(writeStep(47, s))
		r.gives(s, textStep(1))
		r.refused(api.ErrForm, enterStep(1, "c", 2))
		r.refused(api.ErrForm, enterStep(1, "", 0))
		r.refused(api.ErrForm, leaveStep(1, "a"))
	}
	r.again()
	twice := "\x02\x00\x00\x00\x01a" + zeros(26)
	r.well(writeStep(47, twice+twice))
	r.refused(api.ErrHave, enterStep(1, "c", 2))
	r.refused(api.ErrHave, leaveStep(1, "a"))
}

// TestEnterFull: P11.4: with too few blocks left there is ErrFull, and with none left a free slot is taken all the same.
func TestEnterFull(t *testing.T) {
	for left := range 3 {
		for entries := range 12 {
			r := newRig(t, small)
			for k := range entries {
				r.well(enterStep(1, fmt.Sprint(k), 2))
			}
			n := r.now.free()[1]
			for range n - left {
				r.well(blockStep())
			}
			r.commit()
			needed := 0
			if entries%2 == 0 {
				needed = 1
			}
			if entries == 8 {
				needed = 2
			}
			s := enterStep(1, "x", 3)
			if needed > left {
				r.refused(api.ErrFull, s)
				r.gives([2]int{7, left}, freeStep())
				continue
			}
			r.well(s)
			r.gives([2]int{7, left - needed}, freeStep())
			r.gives(uint32(3), leaveStep(1, "x"))
		}
	}
}

// TestOwnMemory: R5: what Blocks answers is new memory.
func TestOwnMemory(t *testing.T) {
	r := newRig(t, small)
	r.well(takeStep(2), setInodeStep(2, file(2304)), setPageStep(2, 0, letters('x')), setPageStep(2, 4, letters('y')))
	for range 3 {
		l, e := r.m.Blocks(2)
		if e != api.OK || !slices.Equal(l, []uint16{1, 3, 2}) {
			t.Fatalf("Blocks: %v, %v", l, e)
		}
		for k := range l {
			l[k] = 9
		}
		_ = append(l, 9, 9)
		r.same("what was done to the list")
	}
}
