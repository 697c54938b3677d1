package image

import (
	"fmt"
	"slices"
	"strings"
	"testing"

	"lunette/api"
	"lunette/dirs"
)

// A dice gives numbers that look random, and are the same ones in each run.
type dice struct{ v uint32 }

// roll gives a number from 0 to n - 1.
func (d *dice) roll(n int) int {
	d.v = d.v*1664525 + 1013904223
	return int(uint64(d.v) * uint64(n) >> 32)
}

// text gives n bytes.
func (d *dice) text(n int) string {
	b := make([]byte, n)
	for i := range b {
		b[i] = byte(d.roll(256))
	}
	return string(b)
}

// name gives one of few names.
func (d *dice) name() string {
	return strings.Repeat(string([]byte{byte('a' + d.roll(4))}), 1+26*(d.roll(4)/3))
}

// size gives one that a file may have, often one at a page's end.
func (d *dice) size() uint32 {
	return uint32(min(2304, max(0, 64*d.roll(37)+[]int{0, 0, -1, 1, 30}[d.roll(5)])))
}

// ordinary gives a step that changes an inode as the chapter's consequences allow it.
func (d *dice) ordinary(ino uint32) step {
	switch d.roll(9) {
	case 0:
		return resizeStep(ino, d.size())
	case 1:
		return resizeStep(ino, uint32(64*d.roll(8)))
	case 2, 3, 4:
		return setPageStep(ino, d.roll(1+d.roll(36)), d.text(64))
	case 5, 6:
		return leaveStep(ino, d.name())
	}
	return enterStep(ino, d.name(), uint32(1+d.roll(1000)))
}

// any gives a step of any kind, often one that leaves an inode and the bits at odds.
func (d *dice) any(g api.Geo) step {
	ino, b := uint32(d.roll(g.Inodes+2)), uint16(d.roll(g.Blocks+2))
	x := api.Inode{Kind: uint8(1 + d.roll(2)), Links: 1, Size: uint32(64 * d.roll(37))}
	for k := range x.Direct {
		if 64*k < int(x.Size) && d.roll(2) == 0 {
			x.Direct[k] = uint16(d.roll(g.Blocks + 2))
		}
	}
	if x.Size > 256 && d.roll(2) == 0 {
		x.Ind = uint16(d.roll(g.Blocks + 2))
	}
	l := []step{inodeStep(ino), takenStep(ino), takeStep(ino), giveStep(ino), blockStep(), giveBlockStep(b), takenBlockStep(b), freeStep(), pageStep(ino, d.roll(37)-1), textStep(ino), blocksStep(ino), setInodeStep(ino, x), setInodeStep(ino, x)}
	return l[d.roll(len(l))]
}

// TestRandom: P11.2 to P11.4: steps of all kinds, one behind the other, with commits, crashes and aborts between.
func TestRandom(t *testing.T) {
	for seed := range uint32(60) {
		d := &dice{seed}
		g := []api.Geo{small, {Inodes: 3, Blocks: 40, Journal: 60}, roomy}[seed%3]
		r := newRig(t, g)
		for range 400 {
			s := d.any(g)
			if d.roll(3) > 0 {
				s = d.ordinary(uint32(1 + d.roll(g.Inodes)))
			}
			if v, e := r.do(s); s.what == "Block()" && e == api.OK && d.roll(2) == 0 {
				r.do(giveBlockStep(v.(uint16)))
			}
			switch d.roll(12) {
			case 0:
				r.commit()
			case 1:
				r.commit()
				r.d.Crash(d.text(9))
			case 2:
				if d.roll(4) == 0 {
					r.again()
				}
			}
			// Ahead of a transaction's end a commit makes room, so that few steps are refused for want of it.
			if r.a.Room() < 8 && d.roll(8) > 0 {
				r.commit()
			}
		}
	}
}

// A shadow is what a file system has, told without a disk: the bytes of its files, and the slots of its directories.
type shadow struct {
	files map[uint32][]byte
	dirs  map[uint32][]api.Entry
}

// copy gives one of its own.
func (s shadow) copy() shadow {
	c := shadow{map[uint32][]byte{}, map[uint32][]api.Entry{}}
	for ino, l := range s.files {
		c.files[ino] = slices.Clone(l)
	}
	for ino, l := range s.dirs {
		c.dirs[ino] = slices.Clone(l)
	}
	return c
}

// resize gives l with n items, of which new ones are zero.
func resize[V any](l []V, n int) []V {
	if n <= len(l) {
		return l[:n:n]
	}
	return append(slices.Clone(l), make([]V, n-len(l))...)
}

// A world is a file system that changes as the chapter's consequences allow it, with its shadow.
type world struct {
	t *testing.T
	d *dice
	r *rig
	s shadow
}

// newWorld gives one in which each inode is a file or a directory.
func newWorld(t *testing.T, g api.Geo, seed uint32) *world {
	t.Helper()
	w := &world{t, &dice{seed}, newRig(t, g), shadow{map[uint32][]byte{}, map[uint32][]api.Entry{1: nil}}}
	for ino := uint32(2); int(ino) <= g.Inodes && ino < 9; ino++ {
		x := api.Inode{Kind: uint8(1 + ino%2), Links: 1}
		w.r.well(takeStep(ino), setInodeStep(ino, x))
		if x.Kind == api.KindFile {
			w.s.files[ino] = nil
		} else {
			w.s.dirs[ino] = nil
		}
		w.r.commit()
	}
	return w
}

// change makes one change, here and in the shadow: only Resize, SetPage, Enter and Leave. It tells whether it was made.
func (w *world) change() bool {
	ino := uint32(1 + w.d.roll(len(w.s.files)+len(w.s.dirs)))
	if _, is := w.s.files[ino]; is {
		return w.changeFile(ino)
	}
	return w.changeDir(ino)
}

// changeFile makes one of a file.
func (w *world) changeFile(ino uint32) bool {
	if w.d.roll(3) == 0 {
		size := w.d.size()
		if w.d.roll(2) == 0 {
			size /= 4
		}
		if _, e := w.r.do(resizeStep(ino, size)); e != api.OK {
			return false
		}
		w.s.files[ino] = resize(w.s.files[ino], int(size))
		return true
	}
	page, s := w.d.roll(1+len(w.s.files[ino])/64), w.d.text(64)
	if _, e := w.r.do(setPageStep(ino, page, s)); e != api.OK {
		return false
	}
	copy(w.s.files[ino][64*page:], s)
	return true
}

// changeDir makes one of a directory.
func (w *world) changeDir(ino uint32) bool {
	l := w.s.dirs[ino]
	name := string([]byte{byte('A' + w.d.roll(40))})
	at := slices.IndexFunc(l, func(x api.Entry) bool { return x.Name == name })
	switch {
	case w.d.roll(40) == 0:
		n := w.d.roll(6)
		if _, e := w.r.do(resizeStep(ino, uint32(64*n))); e != api.OK {
			return false
		}
		l = resize(l, 2*n)
	case at >= 0:
		if v, e := w.r.do(leaveStep(ino, name)); e != api.OK {
			return false
		} else if v != l[at].Ino {
			w.t.Fatalf("Leave(%d, %q): %v, want %d", ino, name, v, l[at].Ino)
		}
		l[at] = api.Entry{}
	default:
		to := uint32(1 + w.d.roll(1<<30))
		if _, e := w.r.do(enterStep(ino, name, to)); e != api.OK {
			return false
		}
		at = slices.Index(l, api.Entry{})
		if at < 0 {
			at, l = len(l), resize(l, len(l)+2)
		}
		l[at] = api.Entry{Name: name, Ino: to}
	}
	w.s.dirs[ino] = l
	return true
}

// readBack holds what is on the disk against the shadow.
func (w *world) readBack() {
	w.t.Helper()
	for ino, l := range w.s.files {
		if x, e := w.r.m.Inode(ino); e != api.OK || x.Size != uint32(len(l)) || x.Kind != api.KindFile {
			w.t.Fatalf("Inode(%d): %v, %v, want a file of %d bytes", ino, x, e, len(l))
		}
		for page := range 36 {
			want := zeros(64)
			if 64*page < len(l) {
				want = string(l[64*page : min(len(l), 64*page+64)])
				want += zeros(64 - len(want))
			}
			if s, e := w.r.m.Page(ino, page); s != want || e != api.OK {
				w.t.Fatalf("Page(%d, %d): %q, %v, want %q", ino, page, s, e, want)
			}
		}
	}
	for ino, l := range w.s.dirs {
		s, e := w.r.m.Text(ino)
		want := slices.DeleteFunc(slices.Clone(l), func(x api.Entry) bool { return x == api.Entry{} })
		if e != api.OK || len(s) != 32*len(l) || !slices.Equal(dirs.List(s), want) {
			w.t.Fatalf("Text(%d): %v, %v, want %v", ino, dirs.List(s), e, want)
		}
	}
}

// owned holds the blocks that are allocated against those that the inodes have: each is one's, once.
func (w *world) owned() {
	w.t.Helper()
	owners := map[uint16][]uint32{}
	for ino := uint32(1); int(ino) <= w.r.g.Inodes; ino++ {
		l, e := w.r.m.Blocks(ino)
		if e != api.OK {
			w.t.Fatalf("Blocks(%d): %v", ino, e)
		}
		for _, b := range l {
			owners[b] = append(owners[b], ino)
		}
	}
	for b := uint16(1); int(b) <= w.r.g.Blocks; b++ {
		is, e := w.r.m.TakenBlock(b)
		if n := len(owners[b]); e != api.OK || n > 1 || is != (n == 1) {
			w.t.Fatalf("the block %d is allocated: %v, %v; the inodes that have it: %v", b, is, e, owners[b])
		}
	}
	if _, blocks, e := w.r.m.Free(); e != api.OK || blocks != w.r.g.Blocks-len(owners) {
		w.t.Fatalf("%d blocks are free (%v), the inodes have %d of %d", blocks, e, len(owners), w.r.g.Blocks)
	}
}

// TestOwners: P11.5: as long as only Resize, SetPage, Enter and Leave change inodes, each block is one inode's, once, or free; and what was set is read back, also behind a commit, and a crash.
func TestOwners(t *testing.T) {
	for seed := range uint32(24) {
		g := []api.Geo{small, roomy, {Inodes: 4, Blocks: 8, Journal: 50}, {Inodes: 7, Blocks: 150, Journal: 90}}[seed%4]
		w := newWorld(t, g, seed)
		kept := w.s.copy()
		for n := range 250 {
			// What a change that is refused has written is left open: it goes with its transaction.
			if !w.change() {
				w.r.again()
				w.s = kept.copy()
			} else if w.d.roll(3) > 0 || w.r.a.Room() < 10 {
				w.r.commit()
				kept = w.s.copy()
				if w.d.roll(8) == 0 {
					w.r.d.Crash(w.d.text(5))
				}
			}
			if n%10 == 0 || w.d.roll(10) == 0 {
				w.readBack()
				w.owned()
			}
		}
		w.readBack()
		w.owned()
		empty(w)
	}
}

// empty takes all that the inodes have: then all blocks are free again.
func empty(w *world) {
	w.t.Helper()
	w.r.commit()
	for ino := uint32(1); int(ino) <= w.r.g.Inodes; ino++ {
		if x, _ := w.r.m.Inode(ino); x.Kind != api.KindFree {
			w.r.well(resizeStep(ino, 0))
			w.r.commit()
		}
		w.r.gives("[]", blocksStep(ino))
	}
	if _, blocks, e := w.r.m.Free(); blocks != w.r.g.Blocks || e != api.OK {
		w.t.Fatalf("%d blocks of %d are free in the end (%v)", blocks, w.r.g.Blocks, e)
	}
	w.r.gives(fmt.Sprint([2]int{w.r.g.Inodes - min(w.r.g.Inodes, 8), w.r.g.Blocks}), freeStep())
}
