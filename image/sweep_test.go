package image

import (
	"fmt"
	"math"
	"strings"
	"testing"

	"lunette/api"
)

// changes gives steps that write: with inodes, pages, sizes and names at the edges and between them.
func changes() []step {
	var l []step
	x := letters('x')
	for ino := range uint32(10) {
		l = append(l, takeStep(ino), giveStep(ino), setInodeStep(ino, api.Inode{}), setInodeStep(ino, file(65)), setInodeStep(ino, dir(65)))
		for _, page := range []int{-1, 0, 1, 3, 4, 5, 34, 35, 36} {
			l = append(l, setPageStep(ino, page, x))
		}
		for _, size := range []uint32{0, 1, 32, 63, 64, 65, 96, 128, 150, 192, 256, 257, 288, 300, 320, 400, 2240, 2303, 2304, 2305} {
			l = append(l, resizeStep(ino, size))
		}
		for _, name := range []string{"a", "b", "new", "", ".."} {
			l = append(l, enterStep(ino, name, 5), leaveStep(ino, name))
		}
		l = append(l, enterStep(ino, "new", 0))
	}
	l = append(l, blockStep())
	for b := range uint16(18) {
		l = append(l, giveBlockStep(b))
	}
	return l
}

// sweep gives the steps that write, and others: those that only read, and those with numbers far off.
func sweep() []step {
	l := append(changes(), freeStep(), takenBlockStep(1024), giveBlockStep(math.MaxUint16))
	for b := range uint16(18) {
		l = append(l, takenBlockStep(b))
	}
	for ino := range uint32(10) {
		l = append(l, inodeStep(ino), takenStep(ino), textStep(ino), blocksStep(ino))
		for _, page := range []int{math.MinInt, -1, 0, 1, 2, 3, 4, 5, 6, 35, 36, 1 << 58, math.MaxInt} {
			l = append(l, pageStep(ino, page))
		}
		// 64 times these pages is 0, 64 or -64 in 64 bits.
		for _, page := range []int{math.MinInt, math.MinInt + 1, 1 << 58, 1<<58 + 1, 1<<58 - 1, math.MaxInt} {
			l = append(l, setPageStep(ino, page, letters('x')))
		}
		for _, n := range []int{0, 1, 63, 65, 128} {
			l = append(l, setPageStep(ino, 0, strings.Repeat("x", n)), setPageStep(ino, 4, strings.Repeat("x", n)))
		}
		for _, size := range []uint32{191, 255, 321, 384, 2241, 2368, 1 << 31, math.MaxUint32 - 63, math.MaxUint32} {
			l = append(l, resizeStep(ino, size))
		}
		l = append(l, enterStep(ino, "a", 0), enterStep(ino, strings.Repeat("x", 27), math.MaxUint32), enterStep(ino, strings.Repeat("x", 28), 1), leaveStep(ino, strings.Repeat("x", 28)))
	}
	for _, ino := range []uint32{1<<16 + 1, 1<<31 + 1, math.MaxUint32} {
		l = append(l, inodeStep(ino), setInodeStep(ino, file(1)), takenStep(ino), takeStep(ino), giveStep(ino), pageStep(ino, 0), setPageStep(ino, 0, letters('x')), resizeStep(ino, 0), textStep(ino), enterStep(ino, "new", 2), leaveStep(ino, "a"), blocksStep(ino))
	}
	return l
}

// furnish puts files and directories of many shapes on the disk, which needs 80 blocks.
func furnish(r *rig) {
	r.t.Helper()
	x, y := letters('x'), letters('y')
	r.well(takeStep(2), setInodeStep(2, file(65)), setPageStep(2, 1, x))
	r.well(takeStep(3), setInodeStep(3, file(2304)), setPageStep(3, 0, x), setPageStep(3, 3, y), setPageStep(3, 4, x), setPageStep(3, 35, y))
	r.well(takeStep(4), setInodeStep(4, dir(0)))
	for k := range 9 {
		r.well(enterStep(4, string([]byte{byte('a' + k)}), uint32(k+1)))
	}
	r.well(takeStep(5), setInodeStep(5, dir(0)))
	r.well(takeStep(6))
	r.well(setInodeStep(7, file(300)), setPageStep(7, 2, x))
	r.well(takeStep(8), setInodeStep(8, file(257)))
	r.well(enterStep(1, "a", 2), enterStep(1, "b", 4), enterStep(1, "c", 7))
	r.well(leaveStep(1, "a"))
	r.commit()
}

// fillUp allocates all blocks but so many.
func fillUp(r *rig, left int) {
	r.t.Helper()
	for range r.now.free()[1] - left {
		r.well(blockStep())
	}
	r.commit()
}

// A scene is a state of a disk that is committed.
type scene struct {
	what string
	make func(r *rig)
}

// scenes gives disks that come about by the image's own methods alone.
func scenes() []scene {
	l := []scene{
		{"formatted", func(r *rig) {}},
		{"furnished", furnish},
	}
	for left := range 4 {
		l = append(l, scene{fmt.Sprintf("furnished, with %d blocks left", left), func(r *rig) { furnish(r); fillUp(r, left) }})
	}
	for entries := range 12 {
		l = append(l, scene{fmt.Sprintf("with %d entries", entries), func(r *rig) {
			r.well(takeStep(2), setInodeStep(2, file(64)))
			for k := range entries {
				r.well(enterStep(1, string([]byte{byte('a' + k)}), 2))
			}
			r.commit()
		}})
	}
	return l
}

// oddScenes gives disks on which bits, inodes and lists were changed past Resize, SetPage, Enter and Leave.
func oddScenes() []scene {
	sector := func(r *rig, b uint16) int { return r.now.blockAt(b) }
	var l []scene
	for b := uint16(1); b <= 16; b++ {
		l = append(l, scene{fmt.Sprintf("block %d given away", b), func(r *rig) {
			furnish(r)
			r.do(giveBlockStep(b))
			r.commit()
		}})
		l = append(l, scene{fmt.Sprintf("no block left but %d, which was given away", b), func(r *rig) {
			furnish(r)
			fillUp(r, 0)
			r.well(giveBlockStep(b))
			r.commit()
		}})
	}
	for k, ino := range []api.Inode{
		{Kind: api.KindFile, Links: 1, Size: 2304, Direct: [4]uint16{81, 0, 0, 0}},
		{Kind: api.KindFile, Links: 1, Size: 2304, Direct: [4]uint16{1, 2, 3, 4}, Ind: 65535},
		{Kind: api.KindDir, Links: 1, Size: 2304, Direct: [4]uint16{1, 2, 3, 4}, Ind: 5},
		{Kind: api.KindDir, Links: 1, Size: 64, Direct: [4]uint16{80}},
		{Kind: api.KindDir, Links: 1, Size: 64, Direct: [4]uint16{1}},
		{Kind: api.KindDir, Links: 1, Size: 320, Direct: [4]uint16{1}, Ind: 2},
		{Kind: api.KindFile, Links: 1, Size: 320, Direct: [4]uint16{0, 1}, Ind: 3},
	} {
		l = append(l, scene{fmt.Sprintf("inodes set by hand, %d", k), func(r *rig) {
			r.well(setInodeStep(1, ino), setInodeStep(2, ino), setInodeStep(8, ino))
			r.commit()
		}})
	}
	for k, told := range []string{
		list(0, 0, 0), list(1, 2, 3, 4, 5), list(9, 9, 9), list(0, 0, 9, 8, 9), list(3), list(0, 3), list(10, 3, 11), list(7, 3), list(81, 7), list(7, 81), list(0, 65535, 0, 1),
		list(16, 15, 14, 13), strings.Repeat("\x07\x00", 32), strings.Repeat("\xff", 64), zeros(62) + "\x09\x00", zeros(62) + "\x51\x00",
	} {
		l = append(l, scene{fmt.Sprintf("lists written by hand, %d", k), func(r *rig) {
			for range 12 {
				r.well(blockStep())
			}
			for n, size := range []uint32{2304, 320, 321, 384} {
				r.well(takeStep(uint32(n+2)), setInodeStep(uint32(n+2), api.Inode{Kind: api.KindFile, Links: 1, Size: size, Direct: [4]uint16{1, 0, 2}, Ind: 3}))
			}
			r.well(takeStep(6), setInodeStep(6, api.Inode{Kind: api.KindDir, Links: 1, Size: 320, Direct: [4]uint16{0, 4}, Ind: 3}))
			r.well(takeStep(7), setInodeStep(7, api.Inode{Kind: api.KindDir, Links: 1, Size: 384, Ind: 3}))
			r.well(giveBlockStep(1), giveBlockStep(5), giveBlockStep(6))
			r.well(writeStep(sector(r, 3), told), writeStep(sector(r, 2), letters('q')))
			r.commit()
		}})
	}
	for k, behind := range [][]uint16{{0, 0}, {7}, {0, 7}, {7, 8}, {0, 7, 8, 7}, {0, 20}, {20}, {0, 81}, {81}, {81, 20}, {20, 81}, {0, 3}, {3}, {0, 1, 2, 3, 4, 5, 6}, {0, 0, 0, 65535}} {
		for _, left := range []int{50, 1, 0} {
			l = append(l, scene{fmt.Sprintf("a full directory with blocks behind its end, %d, %d left", k, left), func(r *rig) {
				for n := range 10 {
					r.well(enterStep(1, string([]byte{byte('c' + n)}), 2))
				}
				r.well(blockStep(), blockStep(), blockStep(), blockStep())
				fillUp(r, left)
				// The block 5 lists the block 6, which is the page 4.
				r.well(writeStep(sector(r, 5), list(append([]uint16{6}, behind...)...)))
				r.commit()
			}})
		}
	}
	for k, s := range []string{strings.Repeat("\xff", 64), "\x01\x00\x01\x00\x40" + zeros(59), zeros(33) + "\x01" + zeros(30), "\x02\x00\x01\x00\x41" + zeros(59), zeros(63) + "\x01"} {
		l = append(l, scene{fmt.Sprintf("inodes written by hand, %d", k), func(r *rig) {
			furnish(r)
			for i := range 4 {
				r.well(writeStep(r.now.table()+i, s))
			}
			r.commit()
		}})
	}
	for k, s := range []string{zeros(64), strings.Repeat("\xff", 64), "\xfe" + zeros(63), zeros(10) + "\x01" + zeros(53), "\xff\x7f" + zeros(62)} {
		l = append(l, scene{fmt.Sprintf("bits written by hand, %d", k), func(r *rig) {
			furnish(r)
			r.well(writeStep(r.now.imap(), s), writeStep(r.now.bmap(), s))
			r.commit()
		}})
	}
	for k, s := range []string{
		zeros(32) + "\x02\x00\x00\x00\x01a" + zeros(26), "\x00\x00\x00\x00\x01a" + zeros(58), "\x02\x00\x00\x00\x01a" + zeros(26) + "\x02\x00\x00\x00\x01a" + zeros(26),
		letters('x'), "\x02\x00\x00\x00\x02.." + zeros(57),
	} {
		l = append(l, scene{fmt.Sprintf("a directory written by hand, %d", k), func(r *rig) {
			furnish(r)
			for _, dir := range []uint32{1, 4} {
				b := r.now.inode(dir).Direct[0]
				r.well(writeStep(sector(r, b), s))
			}
			r.commit()
		}})
	}
	return l
}

// TestSweep: P11.1 to P11.4: every step at many states of a disk, in a transaction of its own: what it answers, what it writes, and that it writes nothing if it is refused.
func TestSweep(t *testing.T) {
	for _, c := range append(scenes(), oddScenes()...) {
		r := newRig(t, roomy)
		c.make(r)
		for _, s := range sweep() {
			r.do(s)
			r.again()
		}
	}
}

// TestDone: every method answers ErrDone in a transaction that was committed, or aborted, behind the errors that are told ahead.
func TestDone(t *testing.T) {
	for _, c := range scenes() {
		r := newRig(t, roomy)
		c.make(r)
		for _, end := range []func(){func() { r.a.Commit() }, func() { r.a.Abort() }} {
			r.again()
			end()
			r.now.done = true
			for _, s := range sweep() {
				if _, e := r.do(s); e != api.ErrDone && e != api.ErrArg {
					t.Errorf("%s: %s of a done transaction: %v", c.what, s.what, e)
				}
			}
		}
	}
	r := newRig(t, small)
	r.a.Abort()
	r.now.done = true
	for _, s := range []step{inodeStep(1), setInodeStep(1, file(1)), takenStep(1), takeStep(1), giveStep(2), blockStep(), giveBlockStep(1), takenBlockStep(1), freeStep(), pageStep(1, -1), setPageStep(1, -1, ""), resizeStep(1, 1), textStep(1), enterStep(1, "", 0), leaveStep(1, ""), blocksStep(1)} {
		r.refused(api.ErrDone, s)
	}
	for _, s := range []step{inodeStep(0), setInodeStep(9, file(1)), setInodeStep(1, dir(1)), takenStep(0), takeStep(9), giveStep(0), giveBlockStep(17), takenBlockStep(0), pageStep(0, 0), setPageStep(9, 0, letters('x')), resizeStep(0, 0), textStep(9), enterStep(0, "a", 1), leaveStep(9, "a"), blocksStep(0)} {
		r.refused(api.ErrArg, s)
	}
}

// TestFailed: on a failed device nothing can be read but what was written: where a step meets any other sector it answers ErrDown, and the transaction is as it was.
func TestFailed(t *testing.T) {
	steps := changes()
	l := scenes()
	for _, c := range []scene{l[0], l[1], l[3], l[8], l[14]} {
		r := newRig(t, roomy)
		c.make(r)
		// The sectors that some step reads: the bits, the inodes, and the blocks that are in use.
		first, last := r.now.imap(), r.now.blockAt(30)
		for missing := first - 1; missing <= last; missing++ {
			for i := first; i <= last; i++ {
				if i != missing {
					r.well(writeStep(i, r.now.sectors[i]))
				}
			}
			r.fail()
			written := r.now
			for _, s := range steps {
				if _, e := r.do(s); e == api.OK || e == api.ErrFull {
					r.d.Crash("")
					r.resume(written)
					r.fail()
				}
			}
			r.mend()
		}
	}
}

// TestRoom: in a transaction that has as many sectors as it may, or nearly, there is ErrFull where one more would be written; what is refused for another reason is refused for that one.
func TestRoom(t *testing.T) {
	steps := changes()
	l := scenes()
	for _, c := range []scene{l[0], l[1], l[8], l[14]} {
		r := newRig(t, small)
		c.make(r)
		// Some sectors may have been written ahead: none, the inodes', or the bits', too.
		for _, ahead := range [][]int{{}, {43, 44, 45, 46}, {41, 42, 43, 44, 45, 46}} {
			for room := range 6 {
				for _, s := range steps {
					for _, i := range ahead {
						r.well(writeStep(i, r.now.sectors[i]))
					}
					for i := 1; r.a.Room() > room; i++ {
						r.a.Write(i, zeros(64))
						r.now.sectors[i], r.now.touched[i] = zeros(64), true
					}
					r.do(s)
					r.again()
				}
			}
		}
	}
	r := newRig(t, small)
	for i := range 37 {
		r.well(writeStep(i+1, zeros(64)))
	}
	for _, s := range []step{setInodeStep(1, dir(0)), setInodeStep(8, file(1)), takeStep(2), giveStep(1), blockStep(), resizeStep(1, 0), enterStep(1, "a", 2)} {
		v := viewOf(r)
		if _, e := s.real(r.m); e != api.ErrFull {
			t.Errorf("%s of a full transaction: %v", s.what, e)
		}
		if viewOf(r) != v {
			t.Errorf("%s of a full transaction has written", s.what)
		}
	}
}

// viewOf gives all that a transaction tells, in print.
func viewOf(r *rig) string {
	s := fmt.Sprint(r.a.Touched(), r.a.Room())
	for i := range r.a.Len() {
		own, e := r.a.Read(i)
		s += fmt.Sprint(own, e)
	}
	return s
}
