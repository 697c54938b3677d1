package check_test

import (
	"fmt"
	"maps"
	"slices"
	"strings"
	"testing"

	"lunette/api"
	"lunette/check"
)

// A dice gives numbers that look random, and are the same ones in each run.
type dice uint32

// roll gives a number from 0 to n - 1.
func (d *dice) roll(n int) int {
	*d = *d*1664525 + 1013904223
	return int(uint64(*d) * uint64(n) >> 32)
}

// spoilers are ways in which a disk is spoilt by chance. What they do may be refused.
func spoilers() []func(r *rig, d *dice) {
	ino := func(r *rig, d *dice) uint32 { return uint32(1 + d.roll(r.g.Inodes)) }
	number := func(r *rig, d *dice) uint16 { return uint16(d.roll(r.g.Blocks + 3)) }
	used := func(r *rig, d *dice) uint16 { return uint16(1 + d.roll(min(12, r.g.Blocks))) }
	name := func(d *dice) string { return string([]byte{byte('a' + d.roll(5))}) }
	return []func(r *rig, d *dice){
		func(r *rig, d *dice) { r.m.Take(ino(r, d)) },
		func(r *rig, d *dice) { r.m.Give(ino(r, d)) },
		func(r *rig, d *dice) { r.m.Block() },
		func(r *rig, d *dice) { r.m.GiveBlock(used(r, d)) },
		func(r *rig, d *dice) { r.bit(api.PartImap, d.roll(r.g.Inodes+3), d.roll(2) == 0) },
		func(r *rig, d *dice) { r.bit(api.PartBmap, d.roll(r.g.Blocks+3), d.roll(2) == 0) },
		func(r *rig, d *dice) { r.raw(ino(r, d), d.roll(32), string([]byte{byte(d.roll(4))})) },
		func(r *rig, d *dice) { r.raw(ino(r, d), 2, string([]byte{byte(d.roll(4))})) },
		func(r *rig, d *dice) { r.raw(ino(r, d), 8+2*d.roll(5), string([]byte{byte(number(r, d))})) },
		func(r *rig, d *dice) { r.list(8, d.roll(32), number(r, d)) },
		func(r *rig, d *dice) { r.block(used(r, d), d.roll(64), string([]byte{byte(d.roll(12))})) },
		func(r *rig, d *dice) { r.block(uint16(1+d.roll(5)), 32*d.roll(2), string([]byte{byte(d.roll(14))})) },
		func(r *rig, d *dice) { r.m.Enter(ino(r, d), name(d), uint32(d.roll(r.g.Inodes+3))) },
		func(r *rig, d *dice) { r.m.Enter(ino(r, d), name(d), ino(r, d)) },
		func(r *rig, d *dice) {
			r.m.Leave(ino(r, d), []string{"d", "g", "big", "f", "e", "h", name(d)}[d.roll(7)])
		},
		func(r *rig, d *dice) { r.m.Resize(ino(r, d), uint32(64*d.roll(8))) },
		func(r *rig, d *dice) { r.m.SetInode(ino(r, d), api.Inode{Kind: uint8(d.roll(3)), Links: 1}) },
		func(r *rig, d *dice) {
			k := ino(r, d)
			r.m.Take(k)
			r.m.SetInode(k, api.Inode{Kind: api.KindDir, Links: 1})
		},
	}
}

// TestSpoilt: P12.1: disks that are spoilt by chance, more and more, have the faults that the chapter defines.
func TestSpoilt(t *testing.T) {
	met := map[uint8]int{}
	l := spoilers()
	for seed := range 300 {
		d := dice(seed)
		r := furnished(t, api.Geo{Inodes: 10, Blocks: []int{10, 14, 70}[seed%3], Journal: 60})
		for range 12 {
			l[d.roll(len(l))](r, &d)
			r.well(api.OK)
			want := defined(r.m, r.g)
			if got, e := check.Check(r.m, r.g); e != api.OK || !slices.Equal(got, want) {
				t.Fatalf("the run %d: %v\n%v, want\n%v", seed, e, got, want)
			}
			for _, x := range want {
				met[x.Kind]++
			}
		}
		r.has(defined(r.m, r.g)...)
	}
	for kind := uint8(api.FaultRoot); kind <= api.FaultBlock; kind++ {
		if met[kind] < 100 {
			t.Errorf("of the kind %d there were only %d faults", kind, met[kind])
		}
	}
}

// An entry is a name in a directory.
type entry struct {
	dir  uint32
	name string
}

// A world is a disk that changes as the chapter's consequences allow it, and what it has.
type world struct {
	*rig
	dice
	names map[entry]uint32 // the files' entries
	links map[uint32]int   // of each file
	dirs  []uint32
	next  int // of the names
}

// newWorld gives one that has so many directories, and no files.
func newWorld(t *testing.T, g api.Geo, seed, dirs int) *world {
	t.Helper()
	w := &world{rig: newRig(t, g), dice: dice(seed), names: map[entry]uint32{}, links: map[uint32]int{}, dirs: []uint32{1}}
	for k := range dirs {
		ino := uint32(2 + k)
		w.rig.dir(ino)
		w.rig.enter(w.dirs[w.roll(len(w.dirs))], fmt.Sprint("dir", k), ino)
		w.dirs = append(w.dirs, ino)
	}
	w.commit()
	w.has()
	return w
}

// sees holds the disk's faults against those of files that have more links than entries, or fewer.
func (w *world) sees() {
	w.t.Helper()
	entries := map[uint32]int{}
	for _, ino := range w.names {
		entries[ino]++
	}
	var want []api.Fault
	for _, ino := range slices.Sorted(maps.Keys(w.links)) {
		if w.links[ino] != entries[ino] {
			want = append(want, badLinks(ino, entries[ino]))
		}
	}
	w.has(want...)
}

// some gives one of the files' names.
func (w *world) some() (x entry, is bool) {
	var l []entry
	for x := range w.names {
		l = append(l, x)
	}
	if len(l) == 0 {
		return entry{}, false
	}
	slices.SortFunc(l, func(a, b entry) int { return strings.Compare(a.name, b.name) })
	return l[w.roll(len(l))], true
}

// link gives the file a name more, in some directory.
func (w *world) link(ino uint32) api.Errno {
	w.next++
	x := entry{w.dirs[w.roll(len(w.dirs))], fmt.Sprint("f", w.next)}
	e := w.m.Enter(x.dir, x.name, ino)
	if e == api.OK {
		w.names[x] = ino
		w.sees()
	}
	return e
}

// unlink takes a name away.
func (w *world) unlink(x entry) api.Errno {
	w.t.Helper()
	ino, e := w.m.Leave(x.dir, x.name)
	if e == api.OK && ino != w.names[x] {
		w.t.Fatalf("Leave(%v): %d", x, ino)
	}
	delete(w.names, x)
	w.sees()
	return e
}

// setLinks stores the file with so many links.
func (w *world) setLinks(ino uint32, n int) api.Errno {
	x, _ := w.m.Inode(ino)
	x.Kind, x.Links = api.KindFile, uint16(n)
	e := w.m.SetInode(ino, x)
	w.links[ino] = n
	return e
}

// newFile makes one with as many links as it will have entries.
func (w *world) newFile() api.Errno {
	ino := uint32(2 + w.roll(w.g.Inodes-1))
	if e := w.m.Take(ino); e != api.OK {
		return api.OK // It is there already.
	}
	n := w.roll(4)
	e := w.setLinks(ino, n)
	w.sees()
	for range n {
		if e == api.OK {
			e = w.link(ino)
		}
	}
	return e
}

// change makes some change.
func (w *world) change() api.Errno {
	files := slices.Sorted(maps.Keys(w.links))
	kind := w.roll(10)
	if kind == 0 || len(files) == 0 {
		return w.newFile()
	}
	ino := files[w.roll(len(files))]
	x, _ := w.m.Inode(ino)
	switch kind {
	case 1, 2:
		return w.m.Resize(ino, uint32(min(2304, 64*w.roll(2+w.roll(36))+w.roll(64))))
	case 3, 4, 5, 6:
		if x.Size == 0 {
			return api.OK
		}
		return w.m.SetPage(ino, w.roll((int(x.Size)+63)/64), fmt.Sprintf("%064d", w.roll(1000)))
	case 7: // A name more.
		if e := w.setLinks(ino, w.links[ino]+1); e != api.OK {
			return e
		}
		return w.link(ino)
	}
	old, is := w.some()
	if !is {
		return api.OK
	}
	ino = w.names[old]
	if e := w.unlink(old); e != api.OK {
		return e
	}
	if kind == 8 { // A name fewer.
		return w.setLinks(ino, w.links[ino]-1)
	}
	return w.link(ino)
}

// step makes a change, whole or not at all: what a change has written that found no room left is given up. It tells whether it was made.
func (w *world) step() bool {
	w.t.Helper()
	names, links := maps.Clone(w.names), maps.Clone(w.links)
	e := w.change()
	switch e {
	case api.OK:
		w.commit()
	case api.ErrFull:
		w.m.Abort()
		w.begin()
		w.names, w.links = names, links
	default:
		w.t.Fatalf("a change: %v", e)
	}
	w.has()
	return e == api.OK
}

// stray allocates a block, and deallocates some that inodes have, each by itself.
func (w *world) stray() {
	w.t.Helper()
	if b, e := w.m.Block(); e == api.OK {
		w.has(badBlock(b, 0))
		w.well(w.m.GiveBlock(b))
		w.has()
	}
	for k := range w.g.Inodes {
		ino := uint32(1 + k)
		l, e := w.m.Blocks(ino)
		w.well(e)
		if len(l) == 0 {
			continue
		}
		// The last one often is the one that lists the others.
		for _, b := range []uint16{l[w.roll(len(l))], l[len(l)-1]} {
			w.well(w.m.GiveBlock(b))
			w.has(badBlock(b, ino))
			w.bit(api.PartBmap, int(b), true)
			w.has()
		}
	}
}

// TestConsequences: P12.2: whatever Take, SetInode of a file with as many links as it will have entries, Resize, SetPage, Enter and Leave do, there are no faults as long as links equal entries; a block that is allocated by itself is found, and so is one that an inode has and that is deallocated.
func TestConsequences(t *testing.T) {
	for seed := range 12 {
		g := []api.Geo{least, {Inodes: 12, Blocks: 40, Journal: 60}, {Inodes: 20, Blocks: 200, Journal: 60}}[seed%3]
		w := newWorld(t, g, seed, []int{0, 3, 5}[seed%3])
		made := 0
		for k := range 120 {
			if w.step() {
				made++
			}
			if k%20 == 19 {
				w.stray()
			}
		}
		if made < 50 {
			t.Errorf("the run %d: only %d changes were made", seed, made)
		}
		w.d.Crash("")
		w.has()
	}
}

// TestGrown: P12.2: directories that grow, have their own bytes set anew, and lose entries that are in their midst, stay without faults.
func TestGrown(t *testing.T) {
	r := newRig(t, api.Geo{Inodes: 5, Blocks: 120, Journal: 60})
	r.dir(2)
	r.enter(1, "d", 2)
	r.pages(2, 2304)
	r.has()
	r.file(3, 0)
	for k := range 72 {
		r.links(3, uint16(k+1))
		r.has(badLinks(3, k))
		r.enter(2, fmt.Sprint("n", k), 3)
		r.has()
	}
	for page := range 36 {
		s, e := r.m.Page(2, page)
		r.well(e)
		r.well(r.m.SetPage(2, page, s))
	}
	r.has()
	for k := range 72 {
		r.leave(2, fmt.Sprint("n", (k*31+5)%72))
		r.has(badLinks(3, 71-k))
		r.links(3, uint16(71-k))
		r.has()
	}
	r.well(r.m.Resize(2, 0))
	r.has()
}
