package geo

import (
	"encoding/binary"
	"math"
	"strings"
	"testing"

	"lunette/api"
)

var (
	chapters = api.Geo{Inodes: 8, Blocks: 16, Journal: 40}
	least    = api.Geo{Inodes: 2, Blocks: 8, Journal: 40}
	greatest = api.Geo{Inodes: 256, Blocks: 1024, Journal: 256}
)

// geometries gives valid ones: the least and the greatest of each number, odd ones, and those whose bits fill sectors just so, or need one more.
func geometries() []api.Geo {
	l := []api.Geo{chapters}
	for _, inodes := range []int{2, 3, 7, 8, 128, 255, 256} {
		for _, blocks := range []int{8, 9, 510, 511, 512, 1022, 1023, 1024} {
			for _, journal := range []int{40, 41, 100, 255, 256} {
				l = append(l, api.Geo{Inodes: inodes, Blocks: blocks, Journal: journal})
			}
		}
	}
	return l
}

// wrongGeometries gives some that are not valid: one number of each, or all.
func wrongGeometries() []api.Geo {
	l := []api.Geo{{}, {Inodes: -8, Blocks: -16, Journal: -40}, {Inodes: 1, Blocks: 7, Journal: 39}, {Inodes: 257, Blocks: 1025, Journal: 257}}
	far := []int{0, -1, -40, math.MinInt, math.MinInt + 1, math.MaxInt, math.MaxInt - 1, 1 << 16, 1<<16 + 40, 1<<32 + 40}
	for _, g := range []api.Geo{chapters, least, greatest} {
		for _, n := range append(far, 1, 257) {
			l = append(l, api.Geo{Inodes: n, Blocks: g.Blocks, Journal: g.Journal})
		}
		for _, n := range append(far, 1, 7, 1025) {
			l = append(l, api.Geo{Inodes: g.Inodes, Blocks: n, Journal: g.Journal})
		}
		for _, n := range append(far, 39, 257) {
			l = append(l, api.Geo{Inodes: g.Inodes, Blocks: g.Blocks, Journal: n})
		}
	}
	return l
}

// disk gives the part of each sector, each part laid sector by sector till all that it has is there: what the package is held against.
func disk(g api.Geo) []int {
	l := []int{api.PartSuper}
	lay := func(part, things, perSector int) {
		for ; things > 0; things -= perSector {
			l = append(l, part)
		}
	}
	lay(api.PartJournal, g.Journal, 1)
	lay(api.PartImap, g.Inodes+1, 512)
	lay(api.PartBmap, g.Blocks+1, 512)
	lay(api.PartTable, g.Inodes, 2)
	lay(api.PartData, g.Blocks, 1)
	return l
}

// span gives where a part is on a disk.
func span(l []int, part int) api.Span {
	var s api.Span
	for i, p := range l {
		if p == part {
			if s.N == 0 {
				s.From = i
			}
			s.N++
		}
	}
	return s
}

// superblock gives that of any numbers.
func superblock(inodes, blocks, journal uint32) string {
	b := []byte("lunette1")
	for _, v := range []uint32{inodes, blocks, journal} {
		b = binary.LittleEndian.AppendUint32(b, v)
	}
	return string(append(b, make([]byte, 44)...))
}

// superblockOf gives that of a geometry.
func superblockOf(g api.Geo) string {
	return superblock(uint32(g.Inodes), uint32(g.Blocks), uint32(g.Journal))
}

// P5.1: each number has a least and a greatest one.
func TestMay(t *testing.T) {
	in := func(n, lo, hi int) bool { return lo <= n && n <= hi }
	tried := func(lo, hi int) []int {
		return []int{math.MinInt, -lo, -1, 0, 1, lo - 1, lo, lo + 1, (lo + hi) / 2, hi - 1, hi, hi + 1, 2 * hi, 1<<16 + lo, 1<<32 + lo, math.MaxInt}
	}
	for _, inodes := range tried(2, 256) {
		for _, blocks := range tried(8, 1024) {
			for _, journal := range tried(40, 256) {
				g := api.Geo{Inodes: inodes, Blocks: blocks, Journal: journal}
				want := in(inodes, 2, 256) && in(blocks, 8, 1024) && in(journal, 40, 256)
				if got := May(g); got != want {
					t.Errorf("May(%v): %v", g, got)
				}
			}
		}
	}
	for _, g := range geometries() {
		if !May(g) {
			t.Errorf("May(%v): false", g)
		}
	}
	for _, g := range wrongGeometries() {
		if May(g) {
			t.Errorf("May(%v): true", g)
		}
	}
}

// P5.1: how many sectors a disk has, and where its parts are.
func TestParts(t *testing.T) {
	for _, x := range []struct {
		g       api.Geo
		sectors int
		spans   [api.Parts]api.Span
	}{
		{chapters, 63, [api.Parts]api.Span{{From: 0, N: 1}, {From: 1, N: 40}, {From: 41, N: 1}, {From: 42, N: 1}, {From: 43, N: 4}, {From: 47, N: 16}}},
		{least, 52, [api.Parts]api.Span{{From: 0, N: 1}, {From: 1, N: 40}, {From: 41, N: 1}, {From: 42, N: 1}, {From: 43, N: 1}, {From: 44, N: 8}}},
		{greatest, 1413, [api.Parts]api.Span{{From: 0, N: 1}, {From: 1, N: 256}, {From: 257, N: 1}, {From: 258, N: 3}, {From: 261, N: 128}, {From: 389, N: 1024}}},
		{api.Geo{Inodes: 3, Blocks: 511, Journal: 41}, 557, [api.Parts]api.Span{{From: 0, N: 1}, {From: 1, N: 41}, {From: 42, N: 1}, {From: 43, N: 1}, {From: 44, N: 2}, {From: 46, N: 511}}},
		{api.Geo{Inodes: 4, Blocks: 512, Journal: 41}, 559, [api.Parts]api.Span{{From: 0, N: 1}, {From: 1, N: 41}, {From: 42, N: 1}, {From: 43, N: 2}, {From: 45, N: 2}, {From: 47, N: 512}}},
		{api.Geo{Inodes: 5, Blocks: 1023, Journal: 40}, 1070, [api.Parts]api.Span{{From: 0, N: 1}, {From: 1, N: 40}, {From: 41, N: 1}, {From: 42, N: 2}, {From: 44, N: 3}, {From: 47, N: 1023}}},
		{api.Geo{Inodes: 255, Blocks: 1024, Journal: 40}, 1197, [api.Parts]api.Span{{From: 0, N: 1}, {From: 1, N: 40}, {From: 41, N: 1}, {From: 42, N: 3}, {From: 45, N: 128}, {From: 173, N: 1024}}},
	} {
		if n := Sectors(x.g); n != x.sectors {
			t.Errorf("Sectors(%v): %d, want %d", x.g, n, x.sectors)
		}
		for part, want := range x.spans {
			if s, e := Part(x.g, part); s != want || e != api.OK {
				t.Errorf("Part(%v, %d): %v %v, want %v", x.g, part, s, e, want)
			}
		}
	}
}

// P5.1: the parts are those that one gets sector by sector.
func TestPartsCounted(t *testing.T) {
	for _, g := range geometries() {
		l := disk(g)
		if n := Sectors(g); n != len(l) {
			t.Errorf("Sectors(%v): %d, want %d", g, n, len(l))
		}
		for part := range api.Parts {
			if s, e := Part(g, part); s != span(l, part) || e != api.OK {
				t.Errorf("Part(%v, %d): %v %v, want %v", g, part, s, e, span(l, part))
			}
		}
	}
}

// P5.1, R2: there is no part of another number, and none of a geometry that is not valid, which has no sectors.
func TestPartWrong(t *testing.T) {
	refused := func(g api.Geo, part int) {
		t.Helper()
		if s, e := Part(g, part); s != (api.Span{}) || e != api.ErrArg {
			t.Errorf("Part(%v, %d): %v %v", g, part, s, e)
		}
	}
	others := []int{-1, -2, -6, 6, 7, 12, 256, 1 << 32, math.MinInt, math.MaxInt}
	for _, g := range geometries() {
		for _, part := range others {
			refused(g, part)
		}
	}
	for _, g := range wrongGeometries() {
		if n := Sectors(g); n != 0 {
			t.Errorf("Sectors(%v): %d", g, n)
		}
		for part := range api.Parts {
			refused(g, part)
		}
		for _, part := range others {
			refused(g, part)
		}
	}
}

// P5.2: the sector and the offset of an inode.
func TestInode(t *testing.T) {
	for _, x := range []struct {
		g            api.Geo
		ino          uint32
		sector, from int
	}{
		{chapters, 1, 43, 0},
		{chapters, 2, 43, 32},
		{chapters, 3, 44, 0},
		{chapters, 7, 46, 0},
		{chapters, 8, 46, 32},
		{least, 1, 43, 0},
		{least, 2, 43, 32},
		{greatest, 1, 261, 0},
		{greatest, 255, 388, 0},
		{greatest, 256, 388, 32},
		{api.Geo{Inodes: 3, Blocks: 8, Journal: 40}, 3, 44, 0},
		{api.Geo{Inodes: 255, Blocks: 1024, Journal: 40}, 255, 172, 0},
	} {
		if sector, from, e := Inode(x.g, x.ino); sector != x.sector || from != x.from || e != api.OK {
			t.Errorf("Inode(%v, %d): %d %d %v, want %d %d", x.g, x.ino, sector, from, e, x.sector, x.from)
		}
	}
}

// P5.2: the inodes stand one behind the other, from the first byte of their part on.
func TestInodesInRow(t *testing.T) {
	for _, g := range geometries() {
		at := 64 * span(disk(g), api.PartTable).From
		for ino := 1; ino <= g.Inodes; ino++ {
			if sector, from, e := Inode(g, uint32(ino)); sector != at/64 || from != at%64 || e != api.OK {
				t.Errorf("Inode(%v, %d): %d %d %v, want byte %d", g, ino, sector, from, e, at)
			}
			at += 32
		}
	}
}

// P5.2, R2: there is no inode 0, none behind the last one, and none of a geometry that is not valid.
func TestInodeWrong(t *testing.T) {
	refused := func(g api.Geo, ino uint32) {
		t.Helper()
		if sector, from, e := Inode(g, ino); sector != 0 || from != 0 || e != api.ErrArg {
			t.Errorf("Inode(%v, %d): %d %d %v", g, ino, sector, from, e)
		}
	}
	for _, g := range geometries() {
		for _, ino := range []uint32{0, uint32(g.Inodes) + 1, uint32(g.Inodes) + 2, 257, 1<<16 + 1, math.MaxInt32, math.MaxInt32 + 1, math.MaxInt32 + 2, math.MaxUint32} {
			refused(g, ino)
		}
	}
	for _, g := range wrongGeometries() {
		for _, ino := range []uint32{0, 1, 2, 8, 256, 257, math.MaxUint32} {
			refused(g, ino)
		}
	}
}

// P5.2: the sector of a block.
func TestBlock(t *testing.T) {
	for _, x := range []struct {
		g      api.Geo
		b      uint16
		sector int
	}{
		{chapters, 1, 47},
		{chapters, 2, 48},
		{chapters, 16, 62},
		{least, 1, 44},
		{least, 8, 51},
		{greatest, 1, 389},
		{greatest, 256, 644},
		{greatest, 1024, 1412},
	} {
		if sector, e := Block(x.g, x.b); sector != x.sector || e != api.OK {
			t.Errorf("Block(%v, %d): %d %v, want %d", x.g, x.b, sector, e, x.sector)
		}
	}
	for _, g := range geometries() {
		first := span(disk(g), api.PartData).From
		for b := 1; b <= g.Blocks; b++ {
			if sector, e := Block(g, uint16(b)); sector != first+b-1 || e != api.OK {
				t.Errorf("Block(%v, %d): %d %v, want %d", g, b, sector, e, first+b-1)
			}
		}
	}
}

// P5.2, R2: there is no block 0, none behind the last one, and none of a geometry that is not valid.
func TestBlockWrong(t *testing.T) {
	refused := func(g api.Geo, b uint16) {
		t.Helper()
		if sector, e := Block(g, b); sector != 0 || e != api.ErrArg {
			t.Errorf("Block(%v, %d): %d %v", g, b, sector, e)
		}
	}
	for _, g := range geometries() {
		for _, b := range []uint16{0, uint16(g.Blocks) + 1, uint16(g.Blocks) + 2, 1025, math.MaxInt16, math.MaxInt16 + 1, math.MaxInt16 + 2, math.MaxUint16} {
			refused(g, b)
		}
	}
	for _, g := range wrongGeometries() {
		for _, b := range []uint16{0, 1, 7, 8, 16, 1024, 1025, math.MaxUint16} {
			refused(g, b)
		}
	}
}

// P5.2: the part of a sector, at the first and the last one of each part.
func TestWhere(t *testing.T) {
	for _, x := range []struct {
		g                api.Geo
		sector, part, at int
	}{
		{chapters, 0, api.PartSuper, 0},
		{chapters, 1, api.PartJournal, 0},
		{chapters, 40, api.PartJournal, 39},
		{chapters, 41, api.PartImap, 0},
		{chapters, 42, api.PartBmap, 0},
		{chapters, 43, api.PartTable, 0},
		{chapters, 44, api.PartTable, 1},
		{chapters, 46, api.PartTable, 3},
		{chapters, 47, api.PartData, 0},
		{chapters, 62, api.PartData, 15},
		{least, 43, api.PartTable, 0},
		{least, 44, api.PartData, 0},
		{least, 51, api.PartData, 7},
		{greatest, 256, api.PartJournal, 255},
		{greatest, 257, api.PartImap, 0},
		{greatest, 258, api.PartBmap, 0},
		{greatest, 260, api.PartBmap, 2},
		{greatest, 261, api.PartTable, 0},
		{greatest, 388, api.PartTable, 127},
		{greatest, 389, api.PartData, 0},
		{greatest, 1412, api.PartData, 1023},
	} {
		if part, at, e := Where(x.g, x.sector); part != x.part || at != x.at || e != api.OK {
			t.Errorf("Where(%v, %d): %d %d %v, want %d %d", x.g, x.sector, part, at, e, x.part, x.at)
		}
	}
}

// P5.2, R2: there is no sector ahead of the disk, none behind it, and none of a geometry that is not valid.
func TestWhereWrong(t *testing.T) {
	refused := func(g api.Geo, sector int) {
		t.Helper()
		if part, at, e := Where(g, sector); part != 0 || at != 0 || e != api.ErrArg {
			t.Errorf("Where(%v, %d): %d %d %v", g, sector, part, at, e)
		}
	}
	for _, g := range geometries() {
		end := len(disk(g))
		for _, sector := range []int{-1, -2, -end, end, end + 1, 2 * end, 4096, 1 << 16, 1 << 32, math.MinInt, math.MinInt + 1, math.MaxInt} {
			refused(g, sector)
		}
	}
	for _, g := range wrongGeometries() {
		for _, sector := range []int{-1, 0, 1, 41, 51, 62, 1412, math.MinInt, math.MaxInt} {
			refused(g, sector)
		}
	}
}

// P5.3: the bytes of a superblock.
func TestSuper(t *testing.T) {
	for _, x := range []struct {
		g     api.Geo
		front string
	}{
		{chapters, "lunette1\x08\x00\x00\x00\x10\x00\x00\x00\x28\x00\x00\x00"},
		{least, "lunette1\x02\x00\x00\x00\x08\x00\x00\x00\x28\x00\x00\x00"},
		{greatest, "lunette1\x00\x01\x00\x00\x00\x04\x00\x00\x00\x01\x00\x00"},
		{api.Geo{Inodes: 255, Blocks: 513, Journal: 100}, "lunette1\xff\x00\x00\x00\x01\x02\x00\x00\x64\x00\x00\x00"},
	} {
		want := x.front + strings.Repeat("\x00", 44)
		if s, e := Super(x.g); s != want || e != api.OK {
			t.Errorf("Super(%v): %q %v, want %q", x.g, s, e, want)
		}
		if g, e := Read(want); g != x.g || e != api.OK {
			t.Errorf("Read(%q): %v %v, want %v", want, g, e, x.g)
		}
	}
	for _, g := range wrongGeometries() {
		if s, e := Super(g); s != "" || e != api.ErrArg {
			t.Errorf("Super(%v): %q %v", g, s, e)
		}
	}
}

// notRead tells of a text that Read takes, though it is no superblock.
func notRead(t *testing.T, s string) {
	t.Helper()
	if g, e := Read(s); g != (api.Geo{}) || e != api.ErrForm {
		t.Errorf("Read(%q): %v %v", s, g, e)
	}
}

// P5.3, R2: what is shorter or longer is no superblock.
func TestReadLength(t *testing.T) {
	for _, g := range []api.Geo{chapters, least, greatest} {
		s := superblockOf(g)
		for n := range len(s) {
			notRead(t, s[:n])
			notRead(t, s[n+1:])
			notRead(t, s[:n]+s[n+1:])
			notRead(t, s[:n]+"\x00"+s[n:])
		}
		for _, more := range []string{"\x00", "l", "\xff", s, strings.Repeat("\x00", 64), strings.Repeat("\x00", 100000)} {
			notRead(t, s+more)
			notRead(t, more+s)
		}
	}
	for _, n := range []int{1, 8, 20, 63, 64, 65, 128} {
		notRead(t, strings.Repeat("\x00", n))
		notRead(t, strings.Repeat("\xff", n))
	}
	notRead(t, "")
	notRead(t, "lunette1")
	notRead(t, "lunette1"+strings.Repeat("\x00", 56))
}

// P5.3, P5.4: a superblock that differs in one byte is that of the other number, if that may be, or none.
func TestReadOtherByte(t *testing.T) {
	for _, g := range []api.Geo{chapters, least, greatest, {Inodes: 100, Blocks: 600, Journal: 200}} {
		own := superblockOf(g)
		for i := range len(own) {
			for c := range 256 {
				b := []byte(own)
				b[i] = byte(c)
				s := string(b)
				n := [3]int{}
				for k := range n {
					n[k] = int(binary.LittleEndian.Uint32(b[8+4*k:]))
				}
				want := api.Geo{Inodes: n[0], Blocks: n[1], Journal: n[2]}
				if (i < 8 || i >= 20) && s != own || n[0] < 2 || n[0] > 256 || n[1] < 8 || n[1] > 1024 || n[2] < 40 || n[2] > 256 {
					notRead(t, s)
				} else if got, e := Read(s); got != want || e != api.OK {
					t.Errorf("Read(%q): %v %v, want %v", s, got, e, want)
				}
			}
		}
	}
}

// P5.3, R2: numbers of no valid geometry make no superblock.
func TestReadNumbers(t *testing.T) {
	far := []uint32{0, 1, 1 << 16, 1<<16 + 40, 1<<24 + 40, math.MaxInt32, 1 << 31, 1<<31 + 40, math.MaxUint32, math.MaxUint32 - 40}
	for _, n := range append(far, 257, 512) {
		notRead(t, superblock(n, 16, 40))
	}
	for _, n := range append(far, 7, 1025, 2048) {
		notRead(t, superblock(8, n, 40))
	}
	for _, n := range append(far, 39, 257, 512) {
		notRead(t, superblock(8, 16, n))
	}
	for _, n := range far {
		notRead(t, superblock(n, n, n))
	}
	// The highest byte first, or the numbers in another order.
	notRead(t, "lunette1\x00\x00\x00\x08\x00\x00\x00\x10\x00\x00\x00\x28"+strings.Repeat("\x00", 44))
	notRead(t, superblock(40, 16, 8))
}

// P5.4: each sector of a disk is in just one part, where Where tells.
func TestSectorsParted(t *testing.T) {
	for _, g := range geometries() {
		at := [api.Parts]int{}
		for sector, p := range disk(g) {
			if part, k, e := Where(g, sector); part != p || k != at[p] || e != api.OK {
				t.Fatalf("Where(%v, %d): %d %d %v, want %d %d", g, sector, part, k, e, p, at[p])
			}
			at[p]++
			having := 0
			for part := range api.Parts {
				if s, _ := Part(g, part); s.From <= sector && sector < s.From+s.N {
					having++
				}
			}
			if having != 1 || sector >= Sectors(g) {
				t.Fatalf("%v: sector %d of %d is in %d parts", g, sector, Sectors(g), having)
			}
		}
	}
}

// P5.4: no two inodes have a byte in common, no two blocks a sector, and each is where its part is.
func TestNothingShared(t *testing.T) {
	for _, g := range geometries() {
		owners := map[int]int{}
		for ino := 1; ino <= g.Inodes; ino++ {
			sector, from, e := Inode(g, uint32(ino))
			if part, _, _ := Where(g, sector); e != api.OK || part != api.PartTable || from < 0 || from+32 > 64 {
				t.Fatalf("Inode(%v, %d): %d %d %v, in part %d", g, ino, sector, from, e, part)
			}
			for k := range 32 {
				at := 64*sector + from + k
				if owners[at] != 0 {
					t.Fatalf("%v: the inodes %d and %d share the byte %d", g, owners[at], ino, at)
				}
				owners[at] = ino
			}
		}
		blocks := map[int]int{}
		for b := 1; b <= g.Blocks; b++ {
			sector, e := Block(g, uint16(b))
			if part, at, _ := Where(g, sector); e != api.OK || part != api.PartData || at != b-1 || blocks[sector] != 0 {
				t.Fatalf("Block(%v, %d): %d %v, in part %d, the block %d's", g, b, sector, e, part, blocks[sector])
			}
			blocks[sector] = b
		}
	}
}

// P5.4: Read reverses Super.
func TestSuperRead(t *testing.T) {
	seen := map[string]api.Geo{}
	for _, g := range geometries() {
		s, e := Super(g)
		if s != superblockOf(g) || e != api.OK {
			t.Errorf("Super(%v): %q %v", g, s, e)
		}
		if other, ok := seen[s]; ok && other != g {
			t.Errorf("%v and %v have one superblock", g, other)
		}
		seen[s] = g
		if back, e := Read(s); back != g || e != api.OK {
			t.Errorf("Read(Super(%v)): %v %v", g, back, e)
		}
	}
}
