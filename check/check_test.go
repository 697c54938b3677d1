package check_test

import (
	"fmt"
	"math"
	"slices"
	"strings"
	"testing"

	"lunette/api"
	"lunette/check"
	"lunette/dev"
	"lunette/geo"
	"lunette/image"
)

// slot gives the bytes of one of a directory's slots, whatever they are.
func slot(ino uint32, length int, rest string) string {
	s := string([]byte{byte(ino), byte(ino >> 8), byte(ino >> 16), byte(ino >> 24), byte(length)}) + rest
	return s + strings.Repeat("\x00", 32-len(s))
}

// A spoiling is what is done to a furnished disk, and which faults that makes.
type spoiling struct {
	what string
	do   func(r *rig)
	want []api.Fault
}

// spoil does each one to a disk of its own.
func spoil(t *testing.T, l []spoiling) {
	t.Helper()
	for _, x := range l {
		t.Run(x.what, func(t *testing.T) {
			r := furnished(t, usual)
			x.do(r)
			r.hasKept(x.want...)
		})
	}
}

// faults gives them as a list.
func faults(l ...api.Fault) []api.Fault { return l }

// TestExamples: P12.1: the chapter's.
func TestExamples(t *testing.T) {
	g := api.Geo{Inodes: 8, Blocks: 16, Journal: 40}
	newRig(t, g).has()
	r := newRig(t, g)
	r.well(r.m.Take(2))
	r.has(api.Fault{Kind: 2, Ino: 2})
	r = newRig(t, g)
	r.enter(1, "a", 5)
	r.has(api.Fault{Kind: 4, Ino: 1})
	l, _ := check.Check(r.m, g)
	if s := check.Line(l[0]); s != "entry 1 0" {
		t.Errorf("Line: %q", s)
	}
}

// TestSound: P12.1, P12.2: disks on which nothing is wrong.
func TestSound(t *testing.T) {
	for _, g := range geometries() {
		newRig(t, g).hasKept()
	}
	for _, g := range []api.Geo{usual, most, {Inodes: 6, Blocks: 10, Journal: 40}, {Inodes: 255, Blocks: 512, Journal: 40}} {
		furnished(t, g).hasKept()
	}
}

// TestRefused: P12.1: which error comes first, and that there are no faults beside one.
func TestRefused(t *testing.T) {
	bad := []api.Geo{
		{}, {Inodes: 1, Blocks: 70, Journal: 60}, {Inodes: 257, Blocks: 70, Journal: 60}, {Inodes: -10, Blocks: 70, Journal: 60},
		{Inodes: 10, Blocks: 7, Journal: 60}, {Inodes: 10, Blocks: 1025, Journal: 60}, {Inodes: 10, Blocks: -70, Journal: 60},
		{Inodes: 10, Blocks: 70, Journal: 39}, {Inodes: 10, Blocks: 70, Journal: 257}, {Inodes: 10, Blocks: 70, Journal: -60},
		{Inodes: math.MinInt, Blocks: math.MaxInt, Journal: 60}, {Inodes: math.MaxInt, Blocks: math.MinInt, Journal: math.MaxInt},
	}
	refused := func(what string, m *image.Image, g api.Geo, want api.Errno) {
		t.Helper()
		if l, e := check.Check(m, g); len(l) != 0 || e != want {
			t.Errorf("%s, %v: %v, %v, want %v", what, g, l, e, want)
		}
	}
	open, spoilt, committed, aborted := furnished(t, usual), furnished(t, usual), furnished(t, usual), furnished(t, usual)
	spoilt.well(spoilt.m.Take(9))
	if _, e := committed.m.Commit(); e != api.OK {
		t.Fatalf("Commit: %v", e)
	}
	aborted.m.Abort()
	for _, down := range []bool{false, true} {
		for _, g := range append(bad, usual) {
			own := func(e api.Errno) api.Errno {
				if g == usual {
					return e
				}
				return api.ErrArg
			}
			refused("nil", nil, g, api.ErrNil)
			refused("committed", committed.m, g, own(api.ErrDone))
			refused("aborted", aborted.m, g, own(api.ErrDone))
			if down {
				refused("failed", open.m, g, own(api.ErrDown))
				refused("failed", spoilt.m, g, own(api.ErrDown))
			} else if g != usual {
				refused("open", open.m, g, api.ErrArg)
				refused("spoilt", spoilt.m, g, api.ErrArg)
			}
		}
		for _, r := range []*rig{open, spoilt, committed, aborted} {
			r.d.Fuse(0)
		}
	}
	open.d.Crash("")
	open.has()
}

// TestOther: R1: with another geometry than the image's own, for which the chapter promises nothing, Check still ends, and in no panic.
func TestOther(t *testing.T) {
	for _, own := range []api.Geo{usual, most} {
		r := furnished(t, own)
		for _, g := range geometries() {
			check.Check(r.m, g)
		}
	}
}

// TestFailed: P12.1: a device that has failed is refused only if Free is; what else can't be read then is faulty.
func TestFailed(t *testing.T) {
	g := api.Geo{Inodes: 4, Blocks: 600, Journal: 60}
	imap, bmap, table, block := 61, 62, 64, 66
	none := func(r *rig) {}
	// The root has the block 1, and the file in it lists the block 3 in 2.
	some := func(r *rig) { r.file(2, 1); r.enter(1, "f", 2); r.pages(2, 2304, 9); r.commit() }
	for _, x := range []struct {
		do      func(r *rig)
		sectors []int // that the transaction has
		e       api.Errno
		want    []api.Fault
	}{
		{none, nil, api.ErrDown, nil},
		{none, []int{imap}, api.ErrDown, nil},
		{none, []int{bmap, bmap + 1}, api.ErrDown, nil},
		{none, []int{imap, bmap}, api.ErrDown, nil},
		{none, []int{imap, bmap + 1}, api.ErrDown, nil},
		{none, []int{table, table + 1}, api.ErrDown, nil},
		{none, []int{imap, bmap, bmap + 1}, api.OK, faults(noRoot(), badInode(1), badInode(2), badInode(3), badInode(4))},
		{none, []int{imap, bmap, bmap + 1, table}, api.OK, faults(badInode(3), badInode(4))},
		{none, []int{imap, bmap, bmap + 1, table + 1}, api.OK, faults(noRoot(), badInode(1), badInode(2))},
		{none, []int{imap, bmap, bmap + 1, table, table + 1}, api.OK, nil},
		{some, []int{imap, bmap, bmap + 1, table, table + 1}, api.OK, faults(badText(1), badInode(2), badLinks(2, 0), badBlock(2, 0), badBlock(3, 0))},
		{some, []int{imap, bmap, bmap + 1, table, table + 1, block}, api.OK, faults(badInode(2), badBlock(2, 0), badBlock(3, 0))},
		{some, []int{imap, bmap, bmap + 1, table, table + 1, block + 1}, api.OK, faults(badText(1), badLinks(2, 0))},
		{some, []int{imap, bmap, bmap + 1, table, table + 1, block, block + 1}, api.OK, nil},
	} {
		r := newRig(t, g)
		x.do(r)
		for _, i := range x.sectors {
			r.well(r.m.Patch(i, 0, ""))
		}
		r.d.Fuse(0)
		l, e := check.Check(r.m, g)
		if e != x.e || !slices.Equal(l, x.want) {
			t.Errorf("Check on a failed device, where %v are in the transaction: %v\n%v, want %v\n%v", x.sectors, e, l, x.e, x.want)
		}
	}
}

// shrunk puts what the disk has on a device that has not all its sectors.
func (r *rig) shrunk(sectors int) {
	r.t.Helper()
	r.commit()
	d, e := dev.New(sectors)
	r.well(e)
	for i := range sectors {
		s, e := r.d.Read(i)
		r.well(e)
		r.well(d.Write(i, s))
	}
	r.open(d)
}

// TestLacking: P12.1: where sectors are missing, Free is refused, or Inode, Blocks or Text are; if only Text is, there is no FaultInode.
func TestLacking(t *testing.T) {
	g := usual // the bits are in 61 and 62, the inodes from 63 on, the blocks from 68 on
	missing := func(l []api.Fault, from uint16, to uint16) []api.Fault {
		for b := from; b <= to; b++ {
			l = append(l, badBlock(b, 0))
		}
		return l
	}
	for _, x := range []struct {
		sectors int
		e       api.Errno
		want    []api.Fault
	}{
		{61, api.ErrArg, nil},
		{62, api.ErrArg, nil},
		// Nobody is there any more, but the bits tell of blocks.
		{63, api.OK, missing(faults(noRoot(), badInode(1), badInode(2), badInode(3), badInode(4), badInode(5), badInode(6), badInode(7), badInode(8), badInode(9), badInode(10)), 1, 10)},
		// There are 1 to 4, of whom 1, 2 and 4 have a block that is not.
		{65, api.OK, missing(faults(badText(1), badText(2), badText(4), badInode(5), badInode(6), badInode(7), badInode(8), badInode(9), badInode(10),
			badDir(2, 0), badLinks(3, 0), badDir(4, 0)), 6, 10)},
		// All inodes are there, and no block is.
		{68, api.OK, missing(faults(badText(1), badText(2), badText(4), badInode(6), badDir(2, 0), badLinks(3, 0), badDir(4, 0), badLinks(5, 0), badLinks(6, 0)), 6, 10)},
		// The root has one block of two.
		{71, api.OK, missing(faults(badText(1), badText(4), badInode(6), badDir(2, 0), badDir(4, 1), badLinks(5, 0), badLinks(6, 0)), 6, 10)},
		// The directory 4 has none: 5 lacks a name, and nobody has the blocks that 6 lists.
		{72, api.OK, missing(faults(badText(4), badInode(6), badLinks(5, 1)), 6, 10)},
		{73, api.OK, missing(faults(badInode(6)), 6, 10)},
		// The list of 6 is there from here on; what its pages have is asked by nobody.
		{76, api.OK, nil},
		{138, api.OK, nil},
	} {
		r := furnished(t, g)
		r.shrunk(x.sectors)
		if l, e := check.Check(r.m, g); e != x.e || !slices.Equal(l, x.want) {
			t.Errorf("Check of a device of %d sectors: %v\n%v, want %v\n%v", x.sectors, e, l, x.e, x.want)
		}
		if x.e == api.OK {
			r.has(x.want...)
		}
	}
}

// TestTransaction: P12.1: the faults are those of the disk as the image's transaction sees it.
func TestTransaction(t *testing.T) {
	r := furnished(t, usual)
	other := r.image()
	r.well(r.m.Take(9))
	r.enter(4, "x", 8)
	r.has(badEntry(4, 1), badInode(9))
	if l, e := check.Check(other, usual); len(l) != 0 || e != api.OK {
		t.Errorf("another transaction: %v, %v", l, e)
	}
	r.m.Abort()
	r.begin()
	r.has()
	r.well(r.m.Take(9))
	r.d.Crash("")
	r.has(badInode(9))
}

// TestUnchanged: P12.1: neither what the transaction has written nor the device's cache changes, whatever is wrong.
func TestUnchanged(t *testing.T) {
	r := furnished(t, usual)
	r.well(r.m.Take(9))
	for _, i := range []int{60, 137, 137, 0} { // The journal's, a free block, the superblock.
		r.well(r.d.Write(i, strings.Repeat("c", 64)))
	}
	r.has(badInode(9))
	r.well(r.m.Give(1))
	r.has(noRoot(), badInode(9), badDir(2, 0), badDir(4, 1), badLinks(5, 1), badLinks(6, 0), badBlock(1, 0), badBlock(4, 0))
	if r.d.Cached(137) != 2 || len(r.d.Loose()) != 3 {
		t.Errorf("cached writes: %v", r.d.Loose())
	}
	// Also where no further sector may be written.
	for i := 70; r.m.Room() > 0; i++ {
		r.m.Patch(i, 0, "")
	}
	r.has(noRoot(), badInode(9), badDir(2, 0), badDir(4, 1), badLinks(5, 1), badLinks(6, 0), badBlock(1, 0), badBlock(4, 0))
}

// TestRoot: P12.1: the root is present, and a directory.
func TestRoot(t *testing.T) {
	// What a furnished disk has once nobody can see into the root any more.
	lost := func(l ...api.Fault) []api.Fault {
		return append(l, badDir(2, 0), badDir(4, 1), badLinks(5, 1), badLinks(6, 0))
	}
	blocks := faults(badBlock(1, 0), badBlock(4, 0))
	spoil(t, []spoiling{
		{"it is free, and not allocated", func(r *rig) { r.well(r.m.Give(1)) }, append(lost(noRoot()), blocks...)},
		{"it is free, and allocated", func(r *rig) { r.well(r.m.SetInode(1, api.Inode{})) }, append(lost(noRoot(), badInode(1)), blocks...)},
		{"it is none", func(r *rig) { r.raw(1, 0, "\x03") }, append(lost(noRoot(), badInode(1)), blocks...)},
		{"it is a file", func(r *rig) { r.change(1, func(x *api.Inode) { x.Kind, x.Links = api.KindFile, 0 }) }, lost(noRoot())},
		{"it is a file with a link", func(r *rig) { r.raw(1, 0, "\x01") }, lost(noRoot(), badLinks(1, 0))},
		{"it is a file with an entry", func(r *rig) { r.raw(1, 0, "\x01"); r.enter(4, "r", 1) }, lost(noRoot(), badEntry(4, 1))},
		{"it is no directory, and one refers to itself", func(r *rig) {
			r.raw(1, 0, "\x01")
			r.enter(2, "d", 2)
		}, faults(noRoot(), badLinks(1, 0), badDir(2, 1), badDir(4, 1), badLinks(5, 1), badLinks(6, 0))},
		{"it is not allocated", func(r *rig) { r.bit(api.PartImap, 1, false) }, faults(badInode(1))},
	})
	for _, x := range []struct {
		do   func(r *rig)
		want []api.Fault
	}{
		{func(r *rig) { r.well(r.m.Give(1)) }, faults(noRoot())},
		{func(r *rig) { r.well(r.m.SetInode(1, api.Inode{})) }, faults(noRoot(), badInode(1))},
		{func(r *rig) { r.well(r.m.SetInode(1, api.Inode{Kind: api.KindFile})) }, faults(noRoot())},
		{func(r *rig) { r.bit(api.PartImap, 1, false) }, faults(badInode(1))},
		{func(r *rig) { r.links(1, 0) }, faults(badLinks(1, 1))},
		{func(r *rig) { r.links(1, 2) }, faults(badLinks(1, 1))},
		{func(r *rig) { r.enter(1, "a", 1) }, faults(badEntry(1, 0))},
	} {
		for _, g := range geometries() {
			r := newRig(t, g)
			x.do(r)
			r.has(x.want...)
		}
	}
}

// TestInode: P12.1: an inode's bytes, its bit and its blocks.
func TestInode(t *testing.T) {
	spoil(t, []spoiling{
		{"one that is free is allocated", func(r *rig) { r.well(r.m.Take(7)) }, faults(badInode(7))},
		{"the last one is", func(r *rig) { r.well(r.m.Take(10)) }, faults(badInode(10))},
		{"several are", func(r *rig) { r.well(r.m.Take(10)); r.well(r.m.Take(8)); r.well(r.m.Take(9)) }, faults(badInode(8), badInode(9), badInode(10))},
		{"bits of numbers that are no inodes are set", func(r *rig) { r.bit(api.PartImap, 11, true); r.bit(api.PartImap, 511, true) }, nil},
		{"the bit 0 is clear", func(r *rig) { r.bit(api.PartImap, 0, false) }, nil},
		{"a file is not allocated", func(r *rig) { r.bit(api.PartImap, 3, false) }, faults(badInode(3))},
		{"a directory is not allocated", func(r *rig) { r.bit(api.PartImap, 2, false) }, faults(badInode(2))},
		{"a file is made that is not allocated", func(r *rig) { r.well(r.m.SetInode(10, api.Inode{Kind: api.KindFile})) }, faults(badInode(10))},
		{"a directory is", func(r *rig) {
			r.well(r.m.SetInode(10, api.Inode{Kind: api.KindDir, Links: 1}))
			r.enter(4, "x", 10)
		}, faults(badInode(10))},
		{"of an unknown kind, not allocated", func(r *rig) { r.raw(7, 0, "\x03") }, faults(badInode(7))},
		{"of an unknown kind, allocated", func(r *rig) { r.well(r.m.Take(7)); r.raw(7, 0, "\xff") }, faults(badInode(7))},
		{"free, but for a byte", func(r *rig) { r.raw(7, 31, "\x01") }, faults(badInode(7))},
		{"a file whose second byte is not 0", func(r *rig) { r.raw(5, 1, "\x01") }, faults(badEntry(1, 1), badEntry(4, 0), badInode(5))},
		{"a file of too many links", func(r *rig) { r.raw(5, 2, "\xc9") }, faults(badEntry(1, 1), badEntry(4, 0), badInode(5))},
		{"a directory of half a sector", func(r *rig) { r.raw(4, 4, "\x20") }, faults(badEntry(2, 1), badInode(4), badLinks(5, 1), badBlock(5, 0))},
		{"a directory that is gone, but allocated", func(r *rig) { r.well(r.m.SetInode(4, api.Inode{})) }, faults(badEntry(2, 1), badInode(4), badLinks(5, 1), badBlock(5, 0))},
	})
}

// TestInodeBlocks: P12.1: blocks that the geometry has not, and lists that can't be read.
func TestInodeBlocks(t *testing.T) {
	direct := func(b uint16) func(r *rig) {
		return func(r *rig) { r.change(6, func(x *api.Inode) { x.Direct[2] = b }) }
	}
	listed := func(at int, b uint16) func(r *rig) { return func(r *rig) { r.list(8, at, b) } }
	ind := func(b uint16) func(r *rig) {
		return func(r *rig) { r.change(6, func(x *api.Inode) { x.Ind = b }) }
	}
	// The blocks of an inode whose Blocks is refused are nobody's.
	nobodys := faults(badInode(6), badBlock(6, 0), badBlock(7, 0), badBlock(8, 0), badBlock(9, 0), badBlock(10, 0))
	// Those of one that has one more than there are stay its own.
	spoil(t, []spoiling{
		{"a direct one just behind the last", direct(71), nobodys},
		{"the greatest direct one", direct(65535), nobodys},
		{"an indirect one just behind the last", ind(71), nobodys},
		{"the greatest indirect one", ind(65535), nobodys},
		{"a listed one just behind the last", listed(5, 71), faults(badInode(6))},
		{"the first one listed", listed(1, 72), faults(badInode(6))},
		{"the last one listed", listed(30, 65535), faults(badInode(6))},
		{"a great one, as a byte none", listed(5, 256), faults(badInode(6))},
		{"a listed one, where no page has another one", func(r *rig) {
			r.pages(5, 320)
			r.change(5, func(x *api.Inode) { x.Ind = 11 })
			r.bit(api.PartBmap, 11, true)
			r.list(11, 0, 71)
		}, faults(badInode(5))},
		{"two of them", func(r *rig) { r.list(8, 5, 71); r.list(8, 6, 71) }, faults(badInode(6))},
		{"one in place of another", listed(0, 300), faults(badInode(6), badBlock(9, 0))},
		{"the last one there is", func(r *rig) { r.list(8, 5, 70); r.bit(api.PartBmap, 70, true) }, nil},
		{"the last one there is, direct", func(r *rig) { direct(70)(r); r.bit(api.PartBmap, 70, true) }, nil},
		{"one that is not there, of a file that is not allocated", func(r *rig) { r.bit(api.PartImap, 6, false); r.list(8, 5, 71) }, faults(badInode(6))},
		{"the list of a file that has become free", func(r *rig) {
			r.list(8, 5, 71)
			r.leave(1, "big")
			r.well(r.m.Give(6))
		}, faults(badBlock(6, 0), badBlock(7, 0), badBlock(8, 0), badBlock(9, 0), badBlock(10, 0))},
		{"of a directory: neither is its content there", func(r *rig) { r.change(4, func(x *api.Inode) { x.Direct[0] = 71 }) },
			faults(badInode(4), badText(4), badLinks(5, 1), badBlock(5, 0))},
		{"of a directory: its content is whole without it", func(r *rig) {
			r.change(4, func(x *api.Inode) { x.Size, x.Ind = 320, 11 })
			r.bit(api.PartBmap, 11, true)
			r.list(11, 9, 71)
		}, faults(badInode(4))},
		{"of a directory: it has it in its list", func(r *rig) {
			r.change(4, func(x *api.Inode) { x.Size, x.Ind = 320, 11 })
			r.bit(api.PartBmap, 11, true)
			r.list(11, 0, 71)
		}, faults(badInode(4), badText(4), badLinks(5, 1))},
	})
}

// TestText: P12.1: a directory's content is there, and valid.
func TestText(t *testing.T) {
	// The directory 4 has one entry, of 5, in its first slot; here it is not there any more, or nobody sees it.
	at := func(from int, s string) func(r *rig) { return func(r *rig) { r.block(5, from, s) } }
	broken := faults(badText(4), badLinks(5, 1))
	alone := faults(badText(7))
	// The directory 7 is in 4, and its second sector is wrong, or its first one.
	fresh := func(from int, s string) func(r *rig) {
		return func(r *rig) {
			r.dir(7)
			r.enter(4, "x", 7)
			r.pages(7, 128)
			r.well(r.m.SetPage(7, from/64, strings.Repeat("\x00", from%64)+s+strings.Repeat("\x00", 64-from%64-len(s))))
		}
	}
	spoil(t, []spoiling{
		{"an entry without an inode", at(0, slot(0, 1, "h")), broken},
		{"a name of no bytes", at(32, slot(5, 0, "")), broken},
		{"a name that is too long", at(32, slot(5, 28, strings.Repeat("n", 27))), broken},
		{"a name with a slash", at(32, slot(5, 3, "a/b")), broken},
		{"a name with a byte 0", at(32, slot(5, 3, "a\x00b")), broken},
		{"the name .", at(32, slot(5, 1, ".")), broken},
		{"the name ..", at(32, slot(5, 2, "..")), broken},
		{"a byte behind a name", at(32, slot(5, 1, "a\x00\x00b")), broken},
		{"a name that occurs twice", at(32, slot(6, 1, "h")), broken},
		{"a slot that is free, but for a byte", at(63, "\x01"), broken},
		{"only a slot that is wrong", fresh(0, slot(0, 1, "a")), alone},
		{"only the last slot is", fresh(96, slot(0, 1, "a")), alone},
		{"only names that occur twice", fresh(0, slot(5, 1, "h")+slot(5, 1, "h")), alone},
		{"the inode isn't allocated", func(r *rig) { at(63, "\x01")(r); r.bit(api.PartImap, 4, false) }, faults(badInode(4), badText(4), badLinks(5, 1))},
		{"an entry that is none beside one that is wrong", func(r *rig) { r.enter(4, "x", 9); at(0, slot(0, 1, "h"))(r) }, broken},
		{"of a file it is not asked", func(r *rig) { r.block(3, 0, slot(0, 1, "a")); r.block(6, 0, "\x01") }, nil},
		{"a file's that looks like one's", func(r *rig) { r.block(3, 0, slot(5, 1, "h")+slot(2, 1, "i")) }, nil},
		{"a directory's that is free again", func(r *rig) {
			fresh(0, slot(0, 1, "a"))(r)
			r.leave(4, "x")
			r.well(r.m.Resize(7, 0))
			r.well(r.m.Give(7))
		}, nil},
		{"the directory's pages have no blocks", func(r *rig) { r.dir(7); r.enter(4, "x", 7); r.pages(7, 2304) }, nil},
	})
}

// TestEntry: P12.1: entries refer to inodes that are present, but not to the root.
func TestEntry(t *testing.T) {
	enter := func(l ...uint32) func(r *rig) {
		return func(r *rig) {
			for k, ino := range l {
				r.enter(4, fmt.Sprint("n", k), ino)
			}
		}
	}
	spoil(t, []spoiling{
		{"the root", enter(1), faults(badEntry(4, 1))},
		{"the first one that may be", enter(2), faults(badDir(2, 2))},
		{"one that is free", enter(7), faults(badEntry(4, 1))},
		{"the last one, which is free", enter(10), faults(badEntry(4, 1))},
		{"the last one, which is there", func(r *rig) { r.file(10, 1); enter(10)(r) }, nil},
		{"the one behind it", enter(11), faults(badEntry(4, 1))},
		{"numbers that are the root's, or a file's, as bytes", enter(257, 1<<16+3, 1<<24+5, 1<<31+6, math.MaxUint32), faults(badEntry(4, 1), badEntry(4, 2), badEntry(4, 3), badEntry(4, 4), badEntry(4, 5))},
		{"one that can't be read", func(r *rig) { r.raw(7, 0, "\x03"); enter(7)(r) }, faults(badEntry(4, 1), badInode(7))},
		{"one that is allocated, and free", func(r *rig) { r.well(r.m.Take(8)); enter(8)(r) }, faults(badEntry(4, 1), badInode(8))},
		{"one that is not allocated, and there", func(r *rig) { r.well(r.m.SetInode(8, api.Inode{Kind: api.KindFile, Links: 1})); enter(8)(r) }, faults(badInode(8))},
		{"several, and good ones between", func(r *rig) {
			enter(9, 5, 9, 5, 1)(r)
			r.links(5, 4)
		}, faults(badEntry(4, 1), badEntry(4, 3), badEntry(4, 5))},
		{"the first one, behind free slots", func(r *rig) { enter(5, 9)(r); r.leave(4, "h"); r.leave(4, "n0"); r.links(5, 1) }, faults(badEntry(4, 0))},
		{"the second one, with free slots between", func(r *rig) { enter(5, 5, 5, 9)(r); r.leave(4, "n0"); r.leave(4, "n1"); r.leave(4, "n2") }, faults(badEntry(4, 1))},
		{"in several directories", func(r *rig) { enter(9)(r); r.enter(2, "x", 8); r.enter(1, "x", 1) }, faults(badEntry(1, 3), badEntry(2, 2), badEntry(4, 1))},
		{"in one that cannot be reached", func(r *rig) { r.dir(7); r.enter(7, "x", 9) }, faults(badEntry(7, 0), badDir(7, 0))},
		{"in one that is not allocated", func(r *rig) { enter(9)(r); r.bit(api.PartImap, 4, false) }, faults(badInode(4), badEntry(4, 1))},
		{"of an inode that has become free", func(r *rig) { r.well(r.m.Give(5)) }, faults(badEntry(1, 1), badEntry(4, 0))},
		{"in one that has become free", func(r *rig) {
			enter(9)(r)
			r.leave(2, "e")
			r.leave(4, "h")
			r.links(5, 1)
			r.well(r.m.Give(4))
		}, faults(badBlock(5, 0))},
	})
}

// TestLinks: P12.1: a file has as many links as entries, a directory one.
func TestLinks(t *testing.T) {
	spoil(t, []spoiling{
		{"a file with none more than entries", func(r *rig) { r.links(5, 0) }, faults(badLinks(5, 2))},
		{"with one less", func(r *rig) { r.links(5, 1) }, faults(badLinks(5, 2))},
		{"with one more", func(r *rig) { r.links(5, 3) }, faults(badLinks(5, 2))},
		{"with the most", func(r *rig) { r.links(5, 200) }, faults(badLinks(5, 2))},
		{"an entry more", func(r *rig) { r.enter(1, "x", 5) }, faults(badLinks(5, 3))},
		{"an entry less", func(r *rig) { r.leave(1, "g") }, faults(badLinks(5, 1))},
		{"no entry", func(r *rig) { r.leave(1, "g"); r.leave(4, "h") }, faults(badLinks(5, 0))},
		{"neither link nor entry", func(r *rig) { r.leave(1, "g"); r.leave(4, "h"); r.links(5, 0) }, nil},
		{"a new one without either", func(r *rig) { r.file(7, 0) }, nil},
		{"a new one with a link", func(r *rig) { r.file(7, 1) }, faults(badLinks(7, 0))},
		{"the last inode", func(r *rig) { r.file(10, 2); r.enter(2, "x", 10) }, faults(badLinks(10, 1))},
		{"two names in one directory", func(r *rig) { r.enter(4, "i", 5); r.links(5, 3) }, nil},
		{"a name in a directory that cannot be reached", func(r *rig) { r.dir(7); r.enter(7, "x", 5); r.links(5, 3) }, faults(badDir(7, 0))},
		{"which it doesn't count", func(r *rig) { r.dir(7); r.enter(7, "x", 5) }, faults(badLinks(5, 3), badDir(7, 0))},
		{"a name in a directory that is not allocated", func(r *rig) { r.bit(api.PartImap, 4, false) }, faults(badInode(4))},
		{"a name in a directory that has become free", func(r *rig) { r.leave(2, "e"); r.well(r.m.Give(4)) }, faults(badLinks(5, 1), badBlock(5, 0))},
		{"a name in what is a file now", func(r *rig) { r.raw(4, 0, "\x01") }, faults(badLinks(5, 1))},
		{"a file that is not allocated", func(r *rig) { r.bit(api.PartImap, 5, false); r.links(5, 1) }, faults(badInode(5), badLinks(5, 2))},
		{"a file whose blocks can't be read", func(r *rig) { r.change(3, func(x *api.Inode) { x.Direct[0], x.Links = 71, 2 }) }, faults(badInode(3), badLinks(3, 1), badBlock(3, 0))},
		{"a directory without one", func(r *rig) { r.links(4, 0) }, faults(badLinks(4, 1))},
		{"a directory with two", func(r *rig) { r.links(4, 2) }, faults(badLinks(4, 1))},
		{"a directory with the most", func(r *rig) { r.links(2, 200) }, faults(badLinks(2, 1))},
		{"a directory with two, and two entries", func(r *rig) { r.links(4, 2); r.enter(1, "x", 4) }, faults(badLinks(4, 1), badDir(4, 2))},
		{"a directory with one, and two entries", func(r *rig) { r.enter(1, "x", 4) }, faults(badDir(4, 2))},
		{"a directory with neither", func(r *rig) { r.dir(7); r.links(7, 0) }, faults(badLinks(7, 1), badDir(7, 0))},
		{"the root without one", func(r *rig) { r.links(1, 0) }, faults(badLinks(1, 1))},
		{"the root with two", func(r *rig) { r.links(1, 2); r.enter(4, "x", 1) }, faults(badEntry(4, 1), badLinks(1, 1))},
		{"what is not there has none", func(r *rig) { r.enter(1, "x", 9) }, faults(badEntry(1, 3))},
	})
	// As many as there may be, and one more or less.
	for _, x := range []struct {
		entries int
		links   uint16
		want    []api.Fault
	}{{200, 200, nil}, {199, 200, faults(badLinks(2, 199))}, {201, 200, faults(badLinks(2, 201))}, {256, 0, faults(badLinks(2, 256))}, {257, 1, faults(badLinks(2, 257))}} {
		r := newRig(t, api.Geo{Inodes: 8, Blocks: 300, Journal: 100})
		r.file(2, x.links)
		for dir := range uint32(4) {
			r.dir(3 + dir)
			r.enter(1, fmt.Sprint("d", dir), 3+dir)
		}
		for k := range x.entries {
			r.enter(uint32(3+k/70), fmt.Sprint("n", k), 2)
		}
		r.has(x.want...)
	}
}

// TestDir: P12.1: a directory has one entry, and can be reached.
func TestDir(t *testing.T) {
	// chain makes directories, each in the one ahead of it.
	chain := func(r *rig, l ...uint32) {
		for k, ino := range l {
			r.dir(ino)
			if k > 0 {
				r.enter(l[k-1], "in", ino)
			}
		}
	}
	spoil(t, []spoiling{
		{"no entry", func(r *rig) { r.dir(7) }, faults(badDir(7, 0))},
		{"the last inode, and no entry", func(r *rig) { r.dir(10) }, faults(badDir(10, 0))},
		{"its entry is taken away", func(r *rig) { r.leave(2, "e") }, faults(badDir(4, 0))},
		{"the entry of one that another is in", func(r *rig) { r.leave(1, "d") }, faults(badDir(2, 0), badDir(4, 1))},
		{"two entries in one directory", func(r *rig) { r.enter(2, "x", 4) }, faults(badDir(4, 2))},
		{"two entries in two directories", func(r *rig) { r.enter(1, "x", 4) }, faults(badDir(4, 2))},
		{"three entries, one of them in one that cannot be reached", func(r *rig) { r.dir(7); r.enter(7, "x", 4); r.enter(1, "x", 4) }, faults(badDir(4, 3), badDir(7, 0))},
		{"an entry in itself, too", func(r *rig) { r.enter(4, "x", 4) }, faults(badDir(4, 2))},
		{"an entry in itself alone", func(r *rig) { r.dir(7); r.enter(7, "x", 7) }, faults(badDir(7, 1))},
		{"two entries in itself", func(r *rig) { r.dir(7); r.enter(7, "x", 7); r.enter(7, "y", 7) }, faults(badDir(7, 2))},
		{"an entry in one that is in it", func(r *rig) { r.enter(4, "x", 2) }, faults(badDir(2, 2))},
		{"two that refer to each other", func(r *rig) { chain(r, 7, 8); r.enter(8, "x", 7) }, faults(badDir(7, 1), badDir(8, 1))},
		{"the same, from the root's own", func(r *rig) { r.leave(1, "d"); r.enter(4, "x", 2) }, faults(badDir(2, 1), badDir(4, 1))},
		{"four that refer to each other", func(r *rig) { chain(r, 9, 7, 10, 8); r.enter(8, "x", 9) }, faults(badDir(7, 1), badDir(8, 1), badDir(9, 1), badDir(10, 1))},
		{"one below two that refer to each other", func(r *rig) { chain(r, 10, 9, 7); r.enter(9, "x", 10) }, faults(badDir(7, 1), badDir(9, 1), badDir(10, 1))},
		{"the same, and the root has one of them, too", func(r *rig) { chain(r, 10, 9, 7); r.enter(9, "x", 10); r.enter(1, "x", 9) }, faults(badDir(9, 2))},
		{"four in a row, reached", func(r *rig) { chain(r, 10, 9, 8, 7); r.enter(4, "x", 10) }, nil},
		{"four in a row, not reached", func(r *rig) { chain(r, 10, 9, 8, 7) }, faults(badDir(7, 1), badDir(8, 1), badDir(9, 1), badDir(10, 0))},
		{"reached by one that can't be read", func(r *rig) { chain(r, 10, 9); r.enter(4, "x", 10); r.raw(10, 1, "\x01") }, faults(badEntry(4, 1), badInode(10), badDir(9, 0), badBlock(11, 0))},
		{"reached by one whose content is none", func(r *rig) { chain(r, 10, 9); r.enter(4, "x", 10); r.block(11, 63, "\x01") }, faults(badText(10), badDir(9, 0))},
		{"reached by one that is not allocated", func(r *rig) { chain(r, 10, 9); r.enter(4, "x", 10); r.bit(api.PartImap, 10, false) }, faults(badInode(10))},
		{"reached by one that has two entries", func(r *rig) { chain(r, 10, 9); r.enter(4, "x", 10); r.enter(1, "x", 10) }, faults(badDir(10, 2))},
		{"reached by the root's entry of the root", func(r *rig) { r.enter(1, "x", 1) }, faults(badEntry(1, 3))},
		{"reached by what is a file now", func(r *rig) { chain(r, 10, 9); r.enter(4, "x", 10); r.raw(10, 0, "\x01") }, faults(badDir(9, 0))},
		{"not allocated itself", func(r *rig) { r.bit(api.PartImap, 4, false); r.enter(1, "x", 4) }, faults(badInode(4), badDir(4, 2))},
		{"a file may have as many entries as it has links", func(r *rig) { r.enter(2, "x", 5); r.enter(4, "x", 5); r.links(5, 4) }, nil},
	})
}

// TestBlock: P12.1: a block is allocated if it is just one inode's, and if it is nobody's it is not.
func TestBlock(t *testing.T) {
	direct := func(r *rig, ino uint32, at int, b uint16) { r.change(ino, func(x *api.Inode) { x.Direct[at] = b }) }
	spoil(t, []spoiling{
		{"allocated, and nobody's", func(r *rig) { r.m.Block() }, faults(badBlock(11, 0))},
		{"several of them", func(r *rig) {
			for _, b := range []int{70, 12, 40} {
				r.bit(api.PartBmap, b, true)
			}
		}, faults(badBlock(12, 0), badBlock(40, 0), badBlock(70, 0))},
		{"bits of numbers that are no blocks are set", func(r *rig) { r.bit(api.PartBmap, 71, true); r.bit(api.PartBmap, 511, true) }, nil},
		{"the bit 0 is clear", func(r *rig) { r.bit(api.PartBmap, 0, false) }, nil},
		{"the first one, which is a directory's, is not allocated", func(r *rig) { r.well(r.m.GiveBlock(1)) }, faults(badBlock(1, 1))},
		{"a file's is not", func(r *rig) { r.well(r.m.GiveBlock(3)) }, faults(badBlock(3, 3))},
		{"one that lists others is not", func(r *rig) { r.well(r.m.GiveBlock(8)) }, faults(badBlock(8, 6))},
		{"one that is listed is not", func(r *rig) { r.well(r.m.GiveBlock(10)) }, faults(badBlock(10, 6))},
		{"all are not", func(r *rig) {
			for b := range uint16(10) {
				r.well(r.m.GiveBlock(1 + b))
			}
		}, faults(badBlock(1, 1), badBlock(2, 2), badBlock(3, 3), badBlock(4, 1), badBlock(5, 4), badBlock(6, 6), badBlock(7, 6), badBlock(8, 6), badBlock(9, 6), badBlock(10, 6))},
		{"two inodes'", func(r *rig) { direct(r, 3, 0, 7) }, faults(badBlock(7, 3))},
		{"two inodes', and not allocated", func(r *rig) { direct(r, 3, 0, 7); r.well(r.m.GiveBlock(7)) }, faults(badBlock(7, 3))},
		{"two inodes', of which the lower one lists others in it", func(r *rig) { r.file(7, 0); r.pages(7, 64); direct(r, 7, 0, 8) }, faults(badBlock(8, 6))},
		{"the list of one is the other's", func(r *rig) { direct(r, 3, 0, 8) }, faults(badBlock(8, 3))},
		{"a directory's, and a file's", func(r *rig) { direct(r, 6, 2, 2) }, faults(badBlock(2, 2))},
		{"three inodes'", func(r *rig) { direct(r, 3, 0, 7); r.list(8, 9, 3); r.pages(5, 64); direct(r, 5, 0, 3) }, faults(badBlock(3, 3), badBlock(7, 3))},
		{"two inodes', of which the greater one has it twice", func(r *rig) { r.list(8, 9, 3); r.list(8, 11, 3) }, faults(badBlock(3, 3))},
		{"one inode's twice, in its list", func(r *rig) { r.list(8, 5, 9) }, faults(badBlock(9, 6))},
		{"one inode's twice, in its list and beside it", func(r *rig) { r.list(8, 5, 7) }, faults(badBlock(7, 6))},
		{"one inode's twice: its list lists itself", func(r *rig) { r.list(8, 5, 8) }, faults(badBlock(8, 6))},
		{"one inode's twice, and not allocated", func(r *rig) { r.list(8, 5, 9); r.well(r.m.GiveBlock(9)) }, faults(badBlock(9, 6))},
		{"one inode's 33 times", func(r *rig) {
			for at := range 32 {
				r.list(8, at, 6)
			}
		}, faults(badBlock(6, 6), badBlock(9, 0), badBlock(10, 0))},
		{"one that is not allocated, listed", func(r *rig) { r.list(8, 20, 33) }, faults(badBlock(33, 6))},
		{"the last one, which is not allocated, listed", func(r *rig) { r.list(8, 31, 70) }, faults(badBlock(10, 0), badBlock(70, 6))},
		{"an inode's that is not allocated", func(r *rig) { r.bit(api.PartImap, 3, false); r.well(r.m.GiveBlock(3)) }, faults(badInode(3), badBlock(3, 3))},
		{"an inode's that is free", func(r *rig) { r.leave(1, "big"); r.well(r.m.Give(6)) }, faults(badBlock(6, 0), badBlock(7, 0), badBlock(8, 0), badBlock(9, 0), badBlock(10, 0))},
		{"an inode's that can't be read, and another's", func(r *rig) { r.raw(3, 1, "\x01"); r.list(8, 9, 3) }, faults(badEntry(2, 0), badInode(3))},
		{"an inode's whose blocks can't be told, and another's", func(r *rig) { r.change(6, func(x *api.Inode) { x.Direct[3] = 71 }); direct(r, 3, 0, 7) },
			faults(badInode(6), badBlock(6, 0), badBlock(8, 0), badBlock(9, 0), badBlock(10, 0))},
		{"an inode's that has one more than there are, and another's", func(r *rig) { r.list(8, 3, 71); direct(r, 3, 0, 7) }, faults(badInode(6), badBlock(7, 3))},
	})
	// Wherever the bit is.
	for _, g := range geometries() {
		for _, b := range []uint16{1, 2, 7, 8, 9, 15, 16, 63, 64, 255, 256, 257, 510, 511, 512, 513, 1022, 1023, 1024, uint16(g.Blocks - 1), uint16(g.Blocks)} {
			if int(b) > g.Blocks {
				continue
			}
			r := newRig(t, g)
			r.bit(api.PartBmap, int(b), true)
			r.has(badBlock(b, 0))
			r.well(r.m.SetInode(1, api.Inode{Kind: api.KindDir, Links: 1, Size: 256, Direct: [4]uint16{0, 0, b}}))
			r.has()
			r.bit(api.PartBmap, int(b), false)
			r.has(badBlock(b, 1))
		}
	}
}

// TestOrder: P12.1: the kinds come as the chapter lists them; inodes, entries and blocks in ascending order.
func TestOrder(t *testing.T) {
	r := furnished(t, usual)
	// Blocks: 11 is nobody's, and so is 69; 9 is listed twice; there is no 80; 7 is the file 6's, and not allocated.
	r.m.Block()
	r.bit(api.PartBmap, 69, true)
	r.list(8, 5, 9)
	r.list(8, 6, 80)
	r.links(6, 7)
	// A directory 7 that refers to itself, and to three that are none.
	r.dir(7)
	r.enter(7, "a", 8)
	r.enter(7, "b", 7)
	r.enter(7, "c", 1)
	r.enter(7, "d", 200)
	r.links(7, 9)
	r.bit(api.PartImap, 7, false)
	r.well(r.m.GiveBlock(7))
	// 10 is free, and 9 is none.
	r.well(r.m.Take(10))
	r.raw(9, 0, "\x07")
	r.enter(4, "z", 9)
	r.enter(1, "x", 10)
	// The directory 2 is broken, so that 3 and 4 have no names.
	r.block(2, 0, "\x00")
	r.links(1, 3)
	r.links(2, 0)
	r.bit(api.PartImap, 1, false)
	r.bit(api.PartImap, 2, false)
	want := faults(badInode(1), badEntry(1, 3), badInode(2), badText(2), badEntry(4, 1), badInode(6), badInode(7), badEntry(7, 0), badEntry(7, 2), badEntry(7, 3), badInode(9), badInode(10),
		badLinks(1, 1), badLinks(2, 1), badLinks(3, 0), badDir(4, 0), badLinks(6, 1), badLinks(7, 1), badDir(7, 1),
		badBlock(7, 6), badBlock(9, 6), badBlock(11, 0), badBlock(69, 0))
	r.hasKept(want...)
	// Without the root.
	r.raw(1, 0, "\x01")
	want = faults(noRoot(), badInode(1), badInode(2), badText(2), badEntry(4, 1), badInode(6), badInode(7), badEntry(7, 0), badEntry(7, 2), badEntry(7, 3), badInode(9), badInode(10),
		badLinks(1, 1), badLinks(2, 1), badDir(2, 0), badLinks(3, 0), badDir(4, 0), badLinks(5, 1), badLinks(6, 0), badLinks(7, 1), badDir(7, 1),
		badBlock(7, 6), badBlock(9, 6), badBlock(11, 0), badBlock(69, 0))
	r.hasKept(want...)
}

// TestApart: R5: two answers share nothing, and none of them changes when the disk does.
func TestApart(t *testing.T) {
	r := furnished(t, usual)
	r.well(r.m.Take(8))
	r.well(r.m.Take(9))
	a, _ := check.Check(r.m, usual)
	b, _ := check.Check(r.m, usual)
	clear(a)
	if !slices.Equal(b, faults(badInode(8), badInode(9))) {
		t.Errorf("what was answered has changed with another answer: %v", b)
	}
	r.well(r.m.Give(8))
	r.has(badInode(9))
	if !slices.Equal(b, faults(badInode(8), badInode(9))) {
		t.Errorf("what was answered has changed with the disk: %v", b)
	}
}

// TestLine: P12.1: the word, Ino and N.
func TestLine(t *testing.T) {
	words := map[uint8]string{1: "root", 2: "inode", 3: "text", 4: "entry", 5: "links", 6: "dir", 7: "block"}
	for kind := range 256 {
		word, is := words[uint8(kind)]
		if !is {
			word = "?"
		}
		for ino, a := range map[uint32]string{0: "0", 1: "1", 9: "9", 10: "10", 256: "256", 1 << 31: "2147483648", math.MaxUint32: "4294967295"} {
			for n, b := range map[int]string{0: "0", 1: "1", 71: "71", 1024: "1024", -1: "-1", -10: "-10", math.MaxInt32: "2147483647", math.MinInt32: "-2147483648", math.MaxInt64: "9223372036854775807", math.MinInt64: "-9223372036854775808"} {
				want := word + " " + a + " " + b
				if s := check.Line(api.Fault{Kind: uint8(kind), Ino: ino, N: n}); s != want {
					t.Errorf("Line: %q, want %q", s, want)
				}
			}
		}
	}
}

// TestFields: P12.1: each kind of fault, told in a line: the fields that it doesn't mention are 0.
func TestFields(t *testing.T) {
	for want, do := range map[string]func(r *rig){
		"root 1 0":   func(r *rig) { r.well(r.m.Give(1)) },
		"inode 2 0":  func(r *rig) { r.well(r.m.Take(2)) },
		"text 1 0":   func(r *rig) { r.pages(1, 64, 0) },
		"entry 1 0":  func(r *rig) { r.enter(1, "a", 2) },
		"links 1 1":  func(r *rig) { r.links(1, 5) },
		"links 2 0":  func(r *rig) { r.file(2, 1) },
		"dir 2 0":    func(r *rig) { r.dir(2) },
		"block 0 8":  func(r *rig) { r.bit(api.PartBmap, 8, true) },
		"block 1 1":  func(r *rig) { r.pages(1, 64); r.change(1, func(x *api.Inode) { x.Direct[0] = 1 }) },
		"entry 1 71": func(r *rig) { r.full(); r.change(2, func(x *api.Inode) { x.Links = 71 }); r.block(37, 32, "\x03") },
	} {
		g := least
		if want == "entry 1 71" {
			g.Blocks = 40
		}
		r := newRig(t, g)
		do(r)
		l, e := check.Check(r.m, g)
		var lines []string
		for _, x := range l {
			lines = append(lines, check.Line(x))
		}
		if got := strings.Join(lines, ", "); got != want || e != api.OK {
			t.Errorf("the faults are %s (%v), want %s", got, e, want)
		}
	}
}

// full gives the root as many entries as it can have, all of the file 2.
func (r *rig) full() {
	r.t.Helper()
	r.file(2, 72)
	for k := range 72 {
		r.enter(1, fmt.Sprint("n", k), 2)
	}
}

// TestFull: P12.1: a directory whose slots are all in use: the first one, the last one, and free slots between.
func TestFull(t *testing.T) {
	r := newRig(t, api.Geo{Inodes: 4, Blocks: 40, Journal: 40})
	r.full()
	r.hasKept()
	set := func(at int, ino uint32) {
		t.Helper()
		// The pages have blocks in their order, but for the one that lists those from the fifth page on.
		b := uint16(at/2 + 1)
		if at >= 8 {
			b++
		}
		r.block(b, at%2*32, string([]byte{byte(ino)}))
	}
	set(0, 3)
	r.hasKept(badEntry(1, 0), badLinks(2, 71))
	set(71, 5)
	r.hasKept(badEntry(1, 0), badEntry(1, 71), badLinks(2, 70))
	set(8, 1)
	r.hasKept(badEntry(1, 0), badEntry(1, 8), badEntry(1, 71), badLinks(2, 69))
	r.links(2, 69)
	r.hasKept(badEntry(1, 0), badEntry(1, 8), badEntry(1, 71))
	for k := 10; k < 60; k++ {
		r.leave(1, fmt.Sprint("n", k))
	}
	r.links(2, 19)
	r.hasKept(badEntry(1, 0), badEntry(1, 8), badEntry(1, 21))
	for _, k := range []int{0, 1, 2, 8} {
		r.leave(1, fmt.Sprint("n", k))
	}
	r.links(2, 17)
	r.hasKept(badEntry(1, 17))
	set(71, 2)
	r.links(2, 18)
	r.hasKept()
}

// TestDeep: P12.1: directories one within another, as deep as there are inodes, or blocks; upwards, downwards, and across.
func TestDeep(t *testing.T) {
	for _, g := range []api.Geo{most, {Inodes: 256, Blocks: 255, Journal: 40}, {Inodes: 256, Blocks: 8, Journal: 60}, {Inodes: 9, Blocks: 1024, Journal: 60}} {
		depth := min(g.Inodes-1, g.Blocks) // The root has a block, too, but the last one needs none.
		for _, place := range []func(k int) uint32{
			func(k int) uint32 { return uint32(2 + k) },
			func(k int) uint32 { return uint32(1 + depth - k) },
			func(k int) uint32 { return uint32(2 + (k*7+3)%depth) },
		} {
			deep(t, g, depth, place)
		}
	}
}

// deep makes so many directories, each in the one ahead of it, of which place tells the inodes; breaks the row at some places, and closes it to a ring.
func deep(t *testing.T, g api.Geo, depth int, place func(k int) uint32) {
	r := newRig(t, g)
	ahead := func(k int) uint32 {
		if k == 0 {
			return 1
		}
		return place(k - 1)
	}
	for k := range depth {
		r.dir(place(k))
		r.enter(ahead(k), "in", place(k))
	}
	r.has()
	// lost gives the faults of the directories from the k-th one on, of which the first one has n entries.
	lost := func(k, n int) []api.Fault {
		var l []api.Fault
		for i := k; i < depth; i++ {
			l = append(l, badDir(place(i), 1))
			if i == k {
				l[0].N = n
			}
		}
		slices.SortFunc(l, func(a, b api.Fault) int { return int(a.Ino) - int(b.Ino) })
		return l
	}
	for _, k := range []int{0, 1, depth / 2, depth - 1} {
		r.leave(ahead(k), "in")
		r.has(lost(k, 0)...)
		r.enter(ahead(k), "in", place(k))
	}
	if depth == g.Blocks {
		return // The last one has no block left for an entry.
	}
	k := depth / 3
	r.enter(place(depth-1), "up", place(k))
	r.has(badDir(place(k), 2))
	r.leave(ahead(k), "in")
	r.has(lost(k, 1)...)
}

// TestWide: P12.1: all inodes of a disk, in directories of the root; each of them may be the one that is wrong.
func TestWide(t *testing.T) {
	r := newRig(t, most)
	for k := range uint32(5) {
		r.dir(252 + k)
		r.enter(1, fmt.Sprint("d", k), 252+k)
	}
	for ino := uint32(2); ino < 252; ino++ {
		r.file(ino, 1)
		r.enter(252+ino%5, fmt.Sprint("f", ino), ino)
	}
	r.has()
	for _, ino := range []uint32{2, 3, 63, 64, 100, 128, 251} {
		r.links(ino, 2)
		r.has(badLinks(ino, 1))
		r.links(ino, 1)
	}
	for _, ino := range []uint32{2, 127, 251} {
		dir, name := 252+ino%5, fmt.Sprint("f", ino)
		r.leave(dir, name)
		r.has(badLinks(ino, 0))
		r.enter(dir, name, ino)
	}
	span, _ := geo.Part(most, api.PartBmap)
	s, _ := r.m.Read(span.From + 1)
	r.well(r.m.Write(span.From+1, strings.Repeat("\xff", 64)))
	var want []api.Fault
	for b := 512; b < 1024; b++ {
		want = append(want, badBlock(uint16(b), 0))
	}
	r.has(want...)
	r.well(r.m.Write(span.From+1, s))
	r.has()
}
