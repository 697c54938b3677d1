package check_test

import (
	"fmt"
	"slices"
	"strings"
	"testing"

	"lunette/api"
	"lunette/check"
	"lunette/dev"
	"lunette/geo"
	"lunette/image"
	"lunette/journal"
	"lunette/tx"
)

// least and most are the geometries with the fewest and with the most inodes and blocks; usual is that of most tests.
var (
	least = api.Geo{Inodes: 2, Blocks: 8, Journal: 40}
	usual = api.Geo{Inodes: 10, Blocks: 70, Journal: 60}
	most  = api.Geo{Inodes: 256, Blocks: 1024, Journal: 256}
)

// geometries gives the least one, the greatest one, and some around the numbers of bits that fill sectors.
func geometries() []api.Geo {
	return []api.Geo{
		least, usual, most,
		{Inodes: 3, Blocks: 511, Journal: 41},
		{Inodes: 255, Blocks: 512, Journal: 40},
		{Inodes: 9, Blocks: 1023, Journal: 256},
	}
}

// A rig is an image in a transaction, and what it is of.
type rig struct {
	t *testing.T
	g api.Geo
	d *dev.Dev
	j *journal.Journal
	m *image.Image
}

// newRig gives a formatted disk.
func newRig(t *testing.T, g api.Geo) *rig {
	t.Helper()
	d, e := dev.New(geo.Sectors(g))
	if e != api.OK {
		t.Fatalf("dev.New: %v", e)
	}
	if e := image.Format(d, g); e != api.OK {
		t.Fatalf("Format: %v", e)
	}
	r := &rig{t: t, g: g}
	r.open(d)
	return r
}

// open takes that device, and begins a transaction on it.
func (r *rig) open(d *dev.Dev) {
	r.t.Helper()
	j, e := journal.Open(d, 1, r.g.Journal)
	if e != api.OK {
		r.t.Fatalf("journal.Open: %v", e)
	}
	r.d, r.j = d, j
	r.begin()
}

// image gives one in a transaction of its own.
func (r *rig) image() *image.Image {
	r.t.Helper()
	a, e := tx.Begin(r.d, r.j)
	if e != api.OK {
		r.t.Fatalf("tx.Begin: %v", e)
	}
	m, e := image.New(a, r.g)
	if e != api.OK {
		r.t.Fatalf("image.New: %v", e)
	}
	return m
}

// begin begins another transaction.
func (r *rig) begin() { r.m = r.image() }

// commit commits what was done, and begins another transaction.
func (r *rig) commit() {
	r.t.Helper()
	if _, e := r.m.Commit(); e != api.OK {
		r.t.Fatalf("Commit: %v", e)
	}
	r.begin()
}

// well goes on if the step went well. Where the next one may lack room in the transaction, another one is begun.
func (r *rig) well(e api.Errno) {
	r.t.Helper()
	if e != api.OK {
		r.t.Fatalf("a step: %v", e)
	}
	if r.m.Room() < 12 {
		r.commit()
	}
}

// make makes x what the inode is, which is allocated.
func (r *rig) make(ino uint32, x api.Inode) {
	r.t.Helper()
	r.well(r.m.Take(ino))
	r.well(r.m.SetInode(ino, x))
}

// file makes a file without bytes.
func (r *rig) file(ino uint32, links uint16) {
	r.t.Helper()
	r.make(ino, api.Inode{Kind: api.KindFile, Links: links})
}

// dir makes a directory without entries.
func (r *rig) dir(ino uint32) {
	r.t.Helper()
	r.make(ino, api.Inode{Kind: api.KindDir, Links: 1})
}

// enter puts an entry into a directory.
func (r *rig) enter(dir uint32, name string, ino uint32) {
	r.t.Helper()
	r.well(r.m.Enter(dir, name, ino))
}

// leave takes an entry out of a directory.
func (r *rig) leave(dir uint32, name string) {
	r.t.Helper()
	_, e := r.m.Leave(dir, name)
	r.well(e)
}

// pages gives an inode the size, and sets these pages.
func (r *rig) pages(ino, size uint32, l ...int) {
	r.t.Helper()
	r.well(r.m.Resize(ino, size))
	for _, page := range l {
		r.well(r.m.SetPage(ino, page, strings.Repeat("x", 64)))
	}
}

// change changes something of what the inode is.
func (r *rig) change(ino uint32, do func(x *api.Inode)) {
	r.t.Helper()
	x, e := r.m.Inode(ino)
	r.well(e)
	do(&x)
	r.well(r.m.SetInode(ino, x))
}

// links changes how many links the inode says that it has.
func (r *rig) links(ino uint32, n uint16) {
	r.t.Helper()
	r.change(ino, func(x *api.Inode) { x.Links = n })
}

// bit sets a bit of a part, or clears it, whatever it is of.
func (r *rig) bit(part, i int, on bool) {
	r.t.Helper()
	span, e := geo.Part(r.g, part)
	r.well(e)
	sector, mask := span.From+i/512, byte(1<<(i%8))
	s, e := r.m.Read(sector)
	r.well(e)
	b := s[i%512/8] &^ mask
	if on {
		b |= mask
	}
	r.well(r.m.Patch(sector, i%512/8, string([]byte{b})))
}

// raw writes bytes of an inode, from one of them on.
func (r *rig) raw(ino uint32, from int, s string) {
	r.t.Helper()
	sector, first, e := geo.Inode(r.g, ino)
	r.well(e)
	r.well(r.m.Patch(sector, first+from, s))
}

// block writes bytes of a block, from one of them on.
func (r *rig) block(b uint16, from int, s string) {
	r.t.Helper()
	sector, e := geo.Block(r.g, b)
	r.well(e)
	r.well(r.m.Patch(sector, from, s))
}

// list makes an indirect block list b at one of its places.
func (r *rig) list(ind uint16, at int, b uint16) {
	r.t.Helper()
	r.block(ind, 2*at, string([]byte{byte(b), byte(b >> 8)}))
}

// furnished gives a disk of the usual geometry, or of one that has no less, that has some files and directories, and no faults:
//
//	1 the root       d: 2, g: 5, big: 6   (block 1, 4)
//	2 a directory    f: 3, e: 4           (block 2)
//	3 a file         100 bytes            (block 3)
//	4 a directory    h: 5                 (block 5)
//	5 a file with two links, no bytes
//	6 a file         2,304 bytes          (pages 0, 1, 4 and 35: blocks 6, 7, 9 and 10; it lists them in 8)
//
// Its other inodes are free, and so are its blocks from 11 on.
func furnished(t *testing.T, g api.Geo) *rig {
	t.Helper()
	r := newRig(t, g)
	r.dir(2)
	r.enter(1, "d", 2)
	r.file(3, 1)
	r.enter(2, "f", 3)
	r.pages(3, 100, 1)
	r.dir(4)
	r.enter(2, "e", 4)
	r.file(5, 2)
	r.enter(1, "g", 5)
	r.file(6, 1)
	r.enter(1, "big", 6)
	r.enter(4, "h", 5)
	r.pages(6, 2304, 0, 1, 4, 35)
	r.commit()
	for ino, want := range [][]uint16{1: {1, 4}, {2}, {3}, {5}, nil, {6, 7, 9, 10, 8}} {
		if l, e := r.m.Blocks(uint32(ino)); ino > 0 && (!slices.Equal(l, want) || e != api.OK) {
			t.Fatalf("the inode %d has the blocks %v (%v), want %v", ino, l, e, want)
		}
	}
	return r
}

// A trace is all that a call might change: what each sector has for the transaction, in the cache and for good, which ones were written, and how often.
type trace struct {
	sectors, touched string
	room             int
	writes           uint64
}

// traced gives that of now.
func (r *rig) traced() trace {
	var b strings.Builder
	for i := range r.d.Len() {
		own, _ := r.m.Read(i)
		durable, _ := r.d.Durable(i)
		b.WriteString(own)
		b.WriteString(durable)
		b.WriteByte(byte(r.d.Cached(i)))
	}
	return trace{b.String(), fmt.Sprint(r.m.Touched()), r.m.Room(), r.d.Writes()}
}

// has holds the disk's faults against these, and against the chapter's definitions; asks again, since what was answered once may be changed by whoever has it; and sees to it that nothing else changes.
func (r *rig) has(want ...api.Fault) {
	r.t.Helper()
	before := r.traced()
	l, e := check.Check(r.m, r.g)
	if e != api.OK || !slices.Equal(l, want) {
		r.t.Fatalf("Check: %v\n%v, want\n%v", e, l, want)
	}
	if own := defined(r.m, r.g); !slices.Equal(own, want) {
		r.t.Fatalf("by the chapter's definitions the faults are\n%v, not\n%v", own, want)
	}
	clear(l)
	if l, e := check.Check(r.m, r.g); e != api.OK || !slices.Equal(l, want) {
		r.t.Fatalf("Check again: %v\n%v, want\n%v", e, l, want)
	}
	if r.traced() != before {
		r.t.Fatal("Check has changed something")
	}
}

// hasKept commits, and holds the faults against these ahead and behind.
func (r *rig) hasKept(want ...api.Fault) {
	r.t.Helper()
	r.has(want...)
	r.commit()
	r.has(want...)
}

// What follows are the faults of each kind.

func noRoot() api.Fault             { return api.Fault{Kind: api.FaultRoot, Ino: 1} }
func badInode(ino uint32) api.Fault { return api.Fault{Kind: api.FaultInode, Ino: ino} }
func badText(ino uint32) api.Fault  { return api.Fault{Kind: api.FaultText, Ino: ino} }

func badEntry(ino uint32, at int) api.Fault {
	return api.Fault{Kind: api.FaultEntry, Ino: ino, N: at}
}

func badLinks(ino uint32, n int) api.Fault {
	return api.Fault{Kind: api.FaultLinks, Ino: ino, N: n}
}

func badDir(ino uint32, n int) api.Fault { return api.Fault{Kind: api.FaultDir, Ino: ino, N: n} }

func badBlock(b uint16, ino uint32) api.Fault {
	return api.Fault{Kind: api.FaultBlock, Ino: ino, N: int(b)}
}
