package image

import (
	"fmt"
	"reflect"
	"slices"
	"testing"

	"lunette/api"
	"lunette/dev"
	"lunette/journal"
	"lunette/tx"
)

// small is the geometry of most tests: 63 sectors; the bits stand in 41 and 42, the inodes from 43 on, the blocks from 47 on.
var small = api.Geo{Inodes: 8, Blocks: 16, Journal: 40}

// roomy has as many blocks as a file can have, and more, and a journal that takes more sectors than the disk has besides.
var roomy = api.Geo{Inodes: 8, Blocks: 80, Journal: 120}

// numbered gives a sector's contents that tell n.
func numbered(n int) string { return fmt.Sprintf("%064d", n) }

// A step is something that is done with an image, and with the plain disk.
type step struct {
	what  string
	whole bool // its errors leave the transaction as it was, also if they are ErrFull
	real  func(m *Image) (any, api.Errno)
	plain func(p *plain) any
}

func inodeStep(ino uint32) step {
	return step{fmt.Sprintf("Inode(%d)", ino), true,
		func(m *Image) (any, api.Errno) { return two(m.Inode(ino)) },
		func(p *plain) any { return p.inode(ino) }}
}

func setInodeStep(ino uint32, x api.Inode) step {
	return step{fmt.Sprintf("SetInode(%d, %v)", ino, x), true,
		func(m *Image) (any, api.Errno) { return nil, m.SetInode(ino, x) },
		func(p *plain) any { p.setInode(ino, x); return nil }}
}

func takenStep(ino uint32) step {
	return step{fmt.Sprintf("Taken(%d)", ino), true,
		func(m *Image) (any, api.Errno) { return two(m.Taken(ino)) },
		func(p *plain) any { return p.taken(ino) }}
}

func takeStep(ino uint32) step {
	return step{fmt.Sprintf("Take(%d)", ino), true,
		func(m *Image) (any, api.Errno) { return nil, m.Take(ino) },
		func(p *plain) any { p.take(ino); return nil }}
}

func giveStep(ino uint32) step {
	return step{fmt.Sprintf("Give(%d)", ino), false,
		func(m *Image) (any, api.Errno) { return nil, m.Give(ino) },
		func(p *plain) any { p.give(ino); return nil }}
}

func blockStep() step {
	return step{"Block()", false,
		func(m *Image) (any, api.Errno) { return two(m.Block()) },
		func(p *plain) any { return p.block() }}
}

func giveBlockStep(b uint16) step {
	return step{fmt.Sprintf("GiveBlock(%d)", b), true,
		func(m *Image) (any, api.Errno) { return nil, m.GiveBlock(b) },
		func(p *plain) any { p.giveBlock(b); return nil }}
}

func takenBlockStep(b uint16) step {
	return step{fmt.Sprintf("TakenBlock(%d)", b), true,
		func(m *Image) (any, api.Errno) { return two(m.TakenBlock(b)) },
		func(p *plain) any { return p.takenBlock(b) }}
}

func freeStep() step {
	return step{"Free()", true,
		func(m *Image) (any, api.Errno) {
			inodes, blocks, e := m.Free()
			return [2]int{inodes, blocks}, e
		},
		func(p *plain) any { return p.free() }}
}

func pageStep(ino uint32, page int) step {
	return step{fmt.Sprintf("Page(%d, %d)", ino, page), true,
		func(m *Image) (any, api.Errno) { return two(m.Page(ino, page)) },
		func(p *plain) any { return p.page(ino, page) }}
}

func setPageStep(ino uint32, page int, s string) step {
	return step{fmt.Sprintf("SetPage(%d, %d, %d bytes)", ino, page, len(s)), false,
		func(m *Image) (any, api.Errno) { return nil, m.SetPage(ino, page, s) },
		func(p *plain) any { p.setPage(ino, page, s); return nil }}
}

func resizeStep(ino, size uint32) step {
	return step{fmt.Sprintf("Resize(%d, %d)", ino, size), false,
		func(m *Image) (any, api.Errno) { return nil, m.Resize(ino, size) },
		func(p *plain) any { p.resize(ino, size); return nil }}
}

func textStep(dir uint32) step {
	return step{fmt.Sprintf("Text(%d)", dir), true,
		func(m *Image) (any, api.Errno) { return two(m.Text(dir)) },
		func(p *plain) any { return p.text(dir) }}
}

func enterStep(dir uint32, name string, ino uint32) step {
	return step{fmt.Sprintf("Enter(%d, %q, %d)", dir, name, ino), false,
		func(m *Image) (any, api.Errno) { return nil, m.Enter(dir, name, ino) },
		func(p *plain) any { p.enter(dir, name, ino); return nil }}
}

func leaveStep(dir uint32, name string) step {
	return step{fmt.Sprintf("Leave(%d, %q)", dir, name), false,
		func(m *Image) (any, api.Errno) { return two(m.Leave(dir, name)) },
		func(p *plain) any { return p.leave(dir, name) }}
}

func blocksStep(ino uint32) step {
	return step{fmt.Sprintf("Blocks(%d)", ino), true,
		func(m *Image) (any, api.Errno) { return two(m.Blocks(ino)) },
		func(p *plain) any { return p.blocks(ino) }}
}

// writeStep writes a sector past the image.
func writeStep(sector int, s string) step {
	return step{fmt.Sprintf("Write(%d)", sector), true,
		func(m *Image) (any, api.Errno) { return nil, m.Write(sector, s) },
		func(p *plain) any { p.write(sector, s); return nil }}
}

// two gives a result as a value of any type.
func two[V any](v V, e api.Errno) (any, api.Errno) { return v, e }

// A rig is an image in a transaction, and the plain disk that it is held against.
type rig struct {
	t    *testing.T
	g    api.Geo
	d    *dev.Dev
	j    *journal.Journal
	a    *tx.Tx
	m    *Image
	now  *plain // in the transaction
	kept *plain // what is committed
}

// newRig gives a formatted disk, whose device had something in each sector.
func newRig(t *testing.T, g api.Geo) *rig {
	t.Helper()
	l := formatted(g)
	d := filled(t, len(l))
	if e := Format(d, g); e != api.OK {
		t.Fatalf("Format(%v): %v", g, e)
	}
	return rigOn(t, g, d, l)
}

// filled gives a device of so many sectors, each with contents of its own, some of them in the cache.
func filled(t *testing.T, sectors int) *dev.Dev {
	t.Helper()
	d, e := dev.New(sectors)
	if e != api.OK {
		t.Fatalf("dev.New(%d): %v", sectors, e)
	}
	for i := range sectors {
		d.Write(i, numbered(i))
	}
	d.Flush()
	for i := 0; i < sectors; i += 3 {
		d.Write(i, numbered(1000+i))
		d.Write(i, numbered(2000+i))
	}
	return d
}

// rigOn gives a rig on the device, which has these contents.
func rigOn(t *testing.T, g api.Geo, d *dev.Dev, l []string) *rig {
	t.Helper()
	j, e := journal.Open(d, 1, g.Journal)
	if e != api.OK {
		t.Fatalf("journal.Open: %v", e)
	}
	r := &rig{t: t, g: g, d: d, j: j, kept: &plain{g: g, sectors: l, touched: map[int]bool{}}}
	r.begin()
	return r
}

// begin begins a transaction.
func (r *rig) begin() {
	r.t.Helper()
	a, e := tx.Begin(r.d, r.j)
	if e != api.OK {
		r.t.Fatalf("tx.Begin: %v", e)
	}
	m, e := New(a, r.g)
	if e != api.OK || m == nil {
		r.t.Fatalf("New(%v): %v, %v", r.g, m, e)
	}
	r.a, r.m, r.now = a, m, r.kept.copy()
}

// again gives the transaction up, and begins another one.
func (r *rig) again() {
	r.t.Helper()
	r.a.Abort()
	r.begin()
}

// resume gives the transaction up, and begins another one in which what p has written is written.
func (r *rig) resume(p *plain) {
	r.t.Helper()
	r.again()
	r.now = p.copy()
	for i := range p.touched {
		r.a.Write(i, p.sectors[i])
	}
}

// commit commits what was done, and begins another transaction.
func (r *rig) commit() {
	r.t.Helper()
	if _, e := r.a.Commit(); e != api.OK {
		r.t.Fatalf("Commit: %v", e)
	}
	r.kept = r.now.copy()
	clear(r.kept.touched)
	r.begin()
}

// fail makes the device fail.
func (r *rig) fail() {
	r.d.Fuse(0)
	r.now.down = true
}

// mend makes a device that has failed work again, and begins another transaction.
func (r *rig) mend() {
	r.t.Helper()
	r.d.Crash("")
	r.again()
}

// same holds the transaction against the plain disk: what each sector has, and which ones were written.
func (r *rig) same(what string) {
	r.t.Helper()
	if r.now.done {
		return
	}
	var touched []int
	for i, want := range r.now.sectors {
		if r.now.touched[i] {
			touched = append(touched, i)
		} else if r.now.down || i > 0 && i <= r.g.Journal {
			continue
		}
		if s, e := r.a.Read(i); s != want || e != api.OK {
			r.t.Fatalf("%s: the sector %d has\n%q, %v, want\n%q", what, i, s, e, want)
		}
	}
	if got := r.a.Touched(); !slices.Equal(got, touched) {
		r.t.Fatalf("%s: it has written %v, want %v", what, got, touched)
	}
}

// plan gives what the step answers by the plain disk, on which it is done.
func (r *rig) plan(s step) (any, api.Errno) {
	behind := r.now.copy()
	v, e := behind.try(s.plain)
	if e == api.OK && !r.now.done && len(behind.touched) > r.j.Max() {
		return nil, api.ErrFull
	}
	if e == api.OK {
		r.now = behind
	}
	return v, e
}

// do does the step, and holds what it answers, and what it writes, against the plain disk. It gives what it answers. Behind an ErrFull after which what was written is left open another transaction is begun.
func (r *rig) do(s step) (any, api.Errno) {
	r.t.Helper()
	want, wantE := r.plan(s)
	v, e := s.real(r.m)
	if wantE != api.OK && v != nil {
		want = reflect.Zero(reflect.TypeOf(v)).Interface()
	}
	// An empty list and none are the same one in print.
	if e != wantE || fmt.Sprint(v) != fmt.Sprint(want) {
		r.t.Fatalf("%s: %v, %v, want %v, %v", s.what, v, e, want, wantE)
	}
	if e == api.ErrFull && !s.whole {
		r.again()
	} else {
		r.same(s.what)
	}
	return v, e
}

// well does the steps, none of which may be refused.
func (r *rig) well(l ...step) {
	r.t.Helper()
	for _, s := range l {
		if _, e := r.do(s); e != api.OK {
			r.t.Fatalf("%s: %v", s.what, e)
		}
	}
}

// refused does a step that must be refused with that error.
func (r *rig) refused(want api.Errno, s step) {
	r.t.Helper()
	if _, e := r.do(s); e != want {
		r.t.Fatalf("%s: %v, want %v", s.what, e, want)
	}
}

// gives does a step that must answer that.
func (r *rig) gives(want any, s step) {
	r.t.Helper()
	if v, e := r.do(s); e != api.OK || fmt.Sprint(v) != fmt.Sprint(want) {
		r.t.Fatalf("%s: %v, %v, want %v", s.what, v, e, want)
	}
}

// wrote holds the sectors that were written in the transaction against these, which are in ascending order.
func (r *rig) wrote(what string, want ...int) {
	r.t.Helper()
	if got := r.a.Touched(); !slices.Equal(got, want) {
		r.t.Fatalf("%s has written %v, want %v", what, got, want)
	}
}
