package check_test

import (
	"slices"

	"lunette/api"
	"lunette/dirs"
	"lunette/image"
)

// A definer goes by the chapter's definitions, one at a time.
type definer struct {
	m    *image.Image
	g    api.Geo
	text map[uint32][]api.Entry // the entries of each directory
	own  map[uint32][]uint16    // the blocks of each inode
}

// all gives each inode of the geometry.
func (d *definer) all() []uint32 {
	var l []uint32
	for k := range d.g.Inodes {
		l = append(l, uint32(k+1))
	}
	return l
}

// present: "if Inode of layer 11 returns it without an error and its Kind is not KindFree".
func (d *definer) present(ino uint32) bool {
	x, e := d.m.Inode(ino)
	return e == api.OK && x.Kind != api.KindFree
}

// is tells whether the inode is present, and of that kind.
func (d *definer) is(ino uint32, kind uint8) bool {
	x, _ := d.m.Inode(ino)
	return d.present(ino) && x.Kind == kind
}

// valid tells whether the directory has a content, and it is valid.
func (d *definer) valid(dir uint32) bool {
	s, e := d.m.Text(dir)
	return e == api.OK && dirs.Check(s) == api.OK
}

// entries: "those of its content, in ascending order of slots, if the content is valid".
func (d *definer) entries(dir uint32) []api.Entry {
	s, _ := d.m.Text(dir)
	if !d.is(dir, api.KindDir) || !d.valid(dir) {
		return nil
	}
	return dirs.List(s)
}

// referring gives how many entries refer to the inode, in all directories that are present.
func (d *definer) referring(ino uint32) int {
	n := 0
	for _, l := range d.text {
		for _, x := range l {
			if x.Ino == ino {
				n++
			}
		}
	}
	return n
}

// reachable: "if it is the inode 1, or an entry of a reachable directory refers to it". It gives all that are.
func (d *definer) reachable() []uint32 {
	var l []uint32
	for known := -1; known < len(l); {
		known = len(l)
		for _, ino := range d.all() {
			byEntry := func(dir uint32) bool {
				return slices.ContainsFunc(d.text[dir], func(x api.Entry) bool { return x.Ino == ino })
			}
			if !slices.Contains(l, ino) && (ino == 1 || slices.ContainsFunc(l, byEntry)) && d.is(ino, api.KindDir) {
				l = append(l, ino)
			}
		}
	}
	return l
}

// inodeFault tells whether there is a FaultInode.
func (d *definer) inodeFault(ino uint32) bool {
	_, e := d.m.Inode(ino)
	taken, takenE := d.m.Taken(ino)
	if e != api.OK || takenE != api.OK || taken != d.present(ino) {
		return true
	}
	if !d.present(ino) {
		return false
	}
	_, e = d.m.Blocks(ino)
	return e != api.OK || slices.ContainsFunc(d.own[ino], func(b uint16) bool { return int(b) > d.g.Blocks })
}

// inodeFaults gives the faults of the second kind in the chapter's list.
func (d *definer) inodeFaults(ino uint32) []api.Fault {
	var l []api.Fault
	if d.inodeFault(ino) {
		l = append(l, badInode(ino))
	}
	if !d.is(ino, api.KindDir) {
		return l
	}
	if !d.valid(ino) {
		return append(l, badText(ino))
	}
	for at, x := range d.text[ino] {
		if x.Ino < 2 || uint64(x.Ino) > uint64(d.g.Inodes) || !d.present(x.Ino) {
			l = append(l, badEntry(ino, at))
		}
	}
	return l
}

// nameFaults gives the faults of the third kind in the chapter's list.
func (d *definer) nameFaults(ino uint32, reachable []uint32) []api.Fault {
	var l []api.Fault
	x, _ := d.m.Inode(ino)
	n := d.referring(ino)
	switch {
	case d.is(ino, api.KindFile):
		if int(x.Links) != n {
			l = append(l, badLinks(ino, n))
		}
	case d.is(ino, api.KindDir):
		if x.Links != 1 {
			l = append(l, badLinks(ino, 1))
		}
		if ino != 1 && (n != 1 || !slices.Contains(reachable, ino)) {
			l = append(l, badDir(ino, n))
		}
	}
	return l
}

// blockFaults gives the faults of the fourth kind in the chapter's list.
func (d *definer) blockFaults(b uint16) []api.Fault {
	occurs, lowest := 0, uint32(0)
	for _, ino := range slices.Backward(d.all()) {
		for _, x := range d.own[ino] {
			if x == b {
				occurs++
				lowest = ino
			}
		}
	}
	taken, _ := d.m.TakenBlock(b)
	if taken && occurs != 1 || !taken && occurs > 0 {
		return []api.Fault{badBlock(b, lowest)}
	}
	return nil
}

// defined gives the faults of the disk as the chapter defines them.
func defined(m *image.Image, g api.Geo) []api.Fault {
	d := &definer{m, g, map[uint32][]api.Entry{}, map[uint32][]uint16{}}
	for _, ino := range d.all() {
		d.text[ino] = d.entries(ino)
		d.own[ino], _ = m.Blocks(ino)
	}
	var l []api.Fault
	if !d.is(1, api.KindDir) {
		l = append(l, noRoot())
	}
	for _, ino := range d.all() {
		l = append(l, d.inodeFaults(ino)...)
	}
	reachable := d.reachable()
	for _, ino := range d.all() {
		l = append(l, d.nameFaults(ino, reachable)...)
	}
	for k := range g.Blocks {
		l = append(l, d.blockFaults(uint16(k+1))...)
	}
	return l
}
