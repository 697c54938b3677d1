package bmap

import (
	"fmt"
	"math"
	"slices"
	"testing"

	"lunette/api"
	"lunette/dev"
	"lunette/journal"
	"lunette/tx"
)

// small is the geometry of most tests: 63 sectors, of which the last 16 are the blocks.
var small = api.Geo{Inodes: 8, Blocks: 16, Journal: 40}

// broad has as many blocks, and more other sectors than a transaction may write.
var broad = api.Geo{Inodes: 128, Blocks: 16, Journal: 40}

// geometries gives the least one, the greatest one, and some between.
func geometries() []api.Geo {
	return []api.Geo{small, {Inodes: 2, Blocks: 8, Journal: 40}, {Inodes: 256, Blocks: 1024, Journal: 256}, {Inodes: 9, Blocks: 511, Journal: 41}, {Inodes: 255, Blocks: 512, Journal: 100}}
}

// numbered gives a sector's contents that tell n.
func numbered(n int) string { return fmt.Sprintf("%064d", n) }

// listing gives the 64 bytes of an indirect block that lists l.
func listing(l ...uint16) string {
	b := make([]byte, 64)
	for i, v := range l {
		b[2*i], b[2*i+1] = byte(v%256), byte(v/256)
	}
	return string(b)
}

// firstBlock gives the sector of a geometry's block 1.
func firstBlock(g api.Geo) int {
	return 1 + g.Journal + (g.Inodes+512)/512 + (g.Blocks+512)/512 + (g.Inodes+1)/2
}

// A disk is a device with a journal, laid out by a geometry.
type disk struct {
	g api.Geo
	d *dev.Dev
	j *journal.Journal
}

// sized gives a device of so many sectors for the geometry, each but the journal's with contents of its own.
func sized(t *testing.T, g api.Geo, sectors int) disk {
	t.Helper()
	d, e := dev.New(sectors)
	if e != api.OK {
		t.Fatalf("dev.New(%d): %v", sectors, e)
	}
	for i := range sectors {
		if i < 1 || i > g.Journal {
			d.Write(i, numbered(i))
		}
	}
	d.Flush()
	j, e := journal.Open(d, 1, g.Journal)
	if e != api.OK {
		t.Fatalf("journal.Open: %v", e)
	}
	return disk{g, d, j}
}

// newDisk gives a device that the geometry just fills.
func newDisk(t *testing.T, g api.Geo) disk {
	t.Helper()
	return sized(t, g, firstBlock(g)+g.Blocks)
}

// begin begins a transaction.
func (k disk) begin(t *testing.T) *tx.Tx {
	t.Helper()
	a, e := tx.Begin(k.d, k.j)
	if e != api.OK {
		t.Fatalf("tx.Begin: %v", e)
	}
	return a
}

// sector gives the one that the block is.
func (k disk) sector(b uint16) int { return firstBlock(k.g) + int(b) - 1 }

// lay puts the list on the device, durably, where x's indirect block is, if it has one.
func (k disk) lay(x api.Inode, l ...uint16) {
	if x.Ind != 0 {
		k.d.Write(k.sector(x.Ind), listing(l...))
		k.d.Flush()
	}
}

// full begins a transaction in which as many sectors are written as may be: the first ones behind the journal, and no block.
func (k disk) full(t *testing.T) *tx.Tx {
	t.Helper()
	a := k.begin(t)
	for i := 0; a.Room() > 0; i++ {
		if i > 0 && i <= k.g.Journal {
			continue
		}
		if i >= firstBlock(k.g) {
			t.Fatal("no room for so many sectors ahead of the blocks")
		}
		if e := a.Write(i, numbered(1000+i)); e != api.OK {
			t.Fatalf("Write(%d): %v", i, e)
		}
	}
	return a
}

// A view is all that a transaction tells.
type view struct {
	contents []string
	touched  []int
	room     int
}

// viewOf gives what a tells.
func viewOf(a *tx.Tx) view {
	v := view{touched: a.Touched(), room: a.Room()}
	for i := range a.Len() {
		s, _ := a.Read(i)
		v.contents = append(v.contents, s)
	}
	return v
}

// stays holds what a tells against what it told before: nothing was written since.
func (v view) stays(t *testing.T, what string, a *tx.Tx) {
	t.Helper()
	now := viewOf(a)
	if !slices.Equal(now.contents, v.contents) || !slices.Equal(now.touched, v.touched) || now.room != v.room {
		t.Errorf("%s: it has written: touched %v, before it %v", what, now.touched, v.touched)
	}
}

// writes holds what a tells against what it told before and a write of that sector.
func (v view) writes(t *testing.T, what string, a *tx.Tx, sector int, s string) {
	t.Helper()
	w := view{slices.Clone(v.contents), slices.Clone(v.touched), v.room}
	w.contents[sector] = s
	if !slices.Contains(w.touched, sector) {
		w.touched = append(w.touched, sector)
		slices.Sort(w.touched)
		w.room--
	}
	now := viewOf(a)
	if !slices.Equal(now.touched, w.touched) || now.room != w.room {
		t.Errorf("%s: touched %v, want %v", what, now.touched, w.touched)
	}
	for i, s := range now.contents {
		if s != w.contents[i] {
			t.Errorf("%s: sector %d: %q, want %q", what, i, s, w.contents[i])
		}
	}
}

// A scene is an inode and what its indirect block lists, if it has one.
type scene struct {
	x api.Inode
	l [32]uint16
}

// block gives the block of the page, as the chapter's definition has it: what the package is held against.
func (s scene) block(page int) uint16 {
	switch {
	case page < 4:
		return s.x.Direct[page]
	case s.x.Ind == 0:
		return 0
	}
	return s.l[page-4]
}

// all gives the blocks of the pages from from to to-1, in ascending order of pages.
func (s scene) all(from, to int) []uint16 {
	var l []uint16
	for page := from; page < to; page++ {
		if b := s.block(page); b != 0 {
			l = append(l, b)
		}
	}
	return l
}

// lists gives what an indirect block may list, of blocks of the geometry and of others.
func lists(g api.Geo) [][32]uint16 {
	last := uint16(g.Blocks)
	l := [][32]uint16{{}, {0: 5}, {31: 5}, {1: last}, {0: 3, 30: 1}, {2: 8, 3: 7, 16: 6, 31: last}, {15: 65535, 16: 256, 17: 255, 18: 257}}
	var rising, same [32]uint16
	for i := range rising {
		rising[i] = uint16(i+8)%last + 1
		same[i] = last
	}
	return append(l, rising, same)
}

// inodes gives some with no direct block, with some, with all, with one twice, with the first and the last one of the geometry; each with an indirect block and without. What else they have is of no meaning here: it is never asked for, and stays.
func inodes(g api.Geo) []api.Inode {
	last := uint16(g.Blocks)
	var l []api.Inode
	for _, direct := range [][4]uint16{{}, {7}, {7, 5}, {0, 5}, {0, 0, 0, 5}, {1, 0, 0, 2}, {1, 2, 3, 4}, {4, 3, 2, 1}, {6, 6, 0, 6}, {last, last - 1, 1, 2}} {
		for _, ind := range []uint16{0, 1, 6, last} {
			x := api.Inode{Direct: direct, Ind: ind}
			switch len(l) % 3 {
			case 0:
				x.Kind, x.Links, x.Size = api.KindFile, 1, 2304
			case 1:
				x.Kind, x.Links, x.Size = api.KindDir, 200, 64
			}
			l = append(l, x)
		}
	}
	return l
}

// scenes gives each of inodes with each of lists.
func scenes(g api.Geo) []scene {
	var l []scene
	for _, x := range inodes(g) {
		for _, listed := range lists(g) {
			l = append(l, scene{x, listed})
			if x.Ind == 0 {
				break
			}
		}
	}
	return l
}

// noPages gives numbers of which no inode has a page: those right outside, and far ones, some of which would be inside if they were cut to fewer bits, or 4 were taken from them.
func noPages() []int {
	return []int{-1, 36, 37, -4, -36, 40, 100, 255, 256, 260, 1<<16 + 5, 1<<32 + 5, 1 << 32, -1 << 32, math.MinInt, math.MinInt + 1, math.MinInt + 3, math.MinInt + 4, math.MaxInt, math.MaxInt - 3}
}

// An asker asks one of the functions that take a transaction, and tells whether every result but the error is zero.
type asker struct {
	name string
	ask  func(a *tx.Tx, g api.Geo, x api.Inode) (bool, api.Errno)
}

// askGet asks for the block of a page.
func askGet(page int) asker {
	return asker{fmt.Sprint("Get ", page), func(a *tx.Tx, g api.Geo, x api.Inode) (bool, api.Errno) {
		b, e := Get(a, g, x, page)
		return b == 0, e
	}}
}

// askSet sets the block of a page.
func askSet(page int, b uint16) asker {
	return asker{fmt.Sprint("Set ", page, b), func(a *tx.Tx, g api.Geo, x api.Inode) (bool, api.Errno) {
		out, e := Set(a, g, x, page, b)
		return out == api.Inode{}, e
	}}
}

// askBegin begins an indirect block.
func askBegin(ind uint16) asker {
	return asker{fmt.Sprint("Begin ", ind), func(a *tx.Tx, g api.Geo, x api.Inode) (bool, api.Errno) {
		out, e := Begin(a, g, x, ind)
		return out == api.Inode{}, e
	}}
}

// askAll asks for all blocks.
func askAll() asker {
	return asker{"All", func(a *tx.Tx, g api.Geo, x api.Inode) (bool, api.Errno) {
		l, e := All(a, g, x)
		return len(l) == 0, e
	}}
}

// askCut cuts.
func askCut(pages int) asker {
	return asker{fmt.Sprint("Cut ", pages), func(a *tx.Tx, g api.Geo, x api.Inode) (bool, api.Errno) {
		out, free, e := Cut(a, g, x, pages)
		return out == api.Inode{} && len(free) == 0, e
	}}
}

// askers gives one of each function, of a low page and of a high one.
func askers(b uint16) []asker {
	return []asker{askGet(0), askGet(3), askGet(4), askGet(35), askSet(0, b), askSet(3, b), askSet(4, b), askSet(35, b), askBegin(b), askAll(), askCut(0), askCut(3), askCut(4), askCut(5), askCut(36)}
}

// refuses holds what the function answers against that error, and zero results; nothing may be written by it.
func refuses(t *testing.T, a *tx.Tx, g api.Geo, x api.Inode, k asker, want api.Errno) {
	t.Helper()
	touched := a.Touched()
	if zero, e := k.ask(a, g, x); !zero || e != want {
		t.Errorf("%s of %v in %v: %v, zero results: %v; want %v", k.name, x, g, e, zero, want)
	}
	if l := a.Touched(); !slices.Equal(l, touched) {
		t.Errorf("%s of %v in %v: touched %v, before it %v", k.name, x, g, l, touched)
	}
}

// takes holds what the function answers against OK.
func takes(t *testing.T, a *tx.Tx, g api.Geo, x api.Inode, k asker) {
	t.Helper()
	if _, e := k.ask(a, g, x); e != api.OK {
		t.Errorf("%s of %v in %v: %v", k.name, x, g, e)
	}
}

// gets holds the blocks of all pages against those of the scene.
func gets(t *testing.T, a *tx.Tx, g api.Geo, s scene) {
	t.Helper()
	for page := range 36 {
		if b, e := Get(a, g, s.x, page); b != s.block(page) || e != api.OK {
			t.Errorf("Get of page %d of %v: %d %v, want %d", page, s, b, e, s.block(page))
		}
	}
}

// has holds all blocks against those of the scene.
func has(t *testing.T, a *tx.Tx, g api.Geo, s scene) {
	t.Helper()
	want := s.all(0, 36)
	if s.x.Ind != 0 {
		want = append(want, s.x.Ind)
	}
	if l, e := All(a, g, s.x); !slices.Equal(l, want) || e != api.OK {
		t.Errorf("All of %v: %v %v, want %v", s, l, e, want)
	}
}

// sets sets a page and gives the scene that comes of it, against which it holds what is answered and written.
func sets(t *testing.T, a *tx.Tx, k disk, s scene, page int, b uint16) scene {
	t.Helper()
	before := viewOf(a)
	what := fmt.Sprintf("Set of page %d of %v to %d", page, s, b)
	next := s
	if page < 4 {
		next.x.Direct[page] = b
	} else {
		next.l[page-4] = b
	}
	if out, e := Set(a, k.g, s.x, page, b); out != next.x || e != api.OK {
		t.Errorf("%s: %v %v, want %v", what, out, e, next.x)
	}
	if page < 4 {
		before.stays(t, what, a)
	} else {
		before.writes(t, what, a, k.sector(s.x.Ind), listing(next.l[:]...))
	}
	return next
}

// begins begins an indirect block and gives the scene that comes of it, against which it holds what is answered and written.
func begins(t *testing.T, a *tx.Tx, k disk, s scene, ind uint16) scene {
	t.Helper()
	before := viewOf(a)
	next := scene{x: s.x}
	next.x.Ind = ind
	what := fmt.Sprintf("Begin of %v with %d", s, ind)
	if out, e := Begin(a, k.g, s.x, ind); out != next.x || e != api.OK {
		t.Errorf("%s: %v %v, want %v", what, out, e, next.x)
	}
	before.writes(t, what, a, k.sector(ind), listing())
	return next
}

// cuts cuts to so many pages and gives the scene that comes of it, against which it holds what is answered and written.
func cuts(t *testing.T, a *tx.Tx, k disk, s scene, pages int) scene {
	t.Helper()
	before := viewOf(a)
	what := fmt.Sprintf("Cut of %v to %d pages", s, pages)
	free, next := s.all(pages, 36), s
	for page := pages; page < 36; page++ {
		if page < 4 {
			next.x.Direct[page] = 0
		} else {
			next.l[page-4] = 0
		}
	}
	if s.x.Ind != 0 && pages <= 4 {
		free = append(free, s.x.Ind)
		next.x.Ind = 0
	}
	out, l, e := Cut(a, k.g, s.x, pages)
	if out != next.x || !slices.Equal(l, free) || e != api.OK {
		t.Errorf("%s: %v %v %v, want %v %v", what, out, l, e, next.x, free)
	}
	if next.x.Ind != 0 && next.l != s.l {
		before.writes(t, what, a, k.sector(next.x.Ind), listing(next.l[:]...))
	} else {
		before.stays(t, what, a)
	}
	return next
}

// P9.1 to P9.3: the chapter's example.
func TestExample(t *testing.T) {
	k := newDisk(t, small)
	a := k.begin(t)
	x := api.Inode{Kind: api.KindFile, Links: 1, Size: 100, Direct: [4]uint16{7, 9}}
	if b, e := Get(a, small, x, 1); b != 9 || e != api.OK {
		t.Errorf("Get: %d %v", b, e)
	}
	if out, e := Set(a, small, x, 4, 5); out != (api.Inode{}) || e != api.ErrNone {
		t.Errorf("Set: %v %v", out, e)
	}
	out, free, e := Cut(a, small, x, 1)
	if out != (api.Inode{Kind: api.KindFile, Links: 1, Size: 100, Direct: [4]uint16{7}}) || !slices.Equal(free, []uint16{9}) || e != api.OK {
		t.Errorf("Cut: %v %v %v", out, free, e)
	}
	if l := a.Touched(); len(l) != 0 {
		t.Errorf("touched %v", l)
	}
}

// P9.1: Get and All give the blocks of all scenes, whether their list is durable, in the device's cache, or written in the transaction; nothing is written by it.
func TestGetAndAll(t *testing.T) {
	for _, g := range geometries() {
		k := newDisk(t, g)
		for n, s := range scenes(g) {
			a := k.begin(t)
			switch {
			case s.x.Ind == 0:
			case n%3 == 0:
				k.lay(s.x, s.l[:]...)
			case n%3 == 1:
				k.d.Write(k.sector(s.x.Ind), listing(s.l[:]...))
			default:
				k.lay(s.x, 9, 9, 9)
				a.Write(k.sector(s.x.Ind), listing(s.l[:]...))
			}
			before := viewOf(a)
			gets(t, a, g, s)
			has(t, a, g, s)
			before.stays(t, "Get and All", a)
			if t.Failed() {
				return
			}
		}
	}
}

// P9.1: All is in ascending order of pages, whatever the numbers of the blocks; Ind is the last one.
func TestAllOrder(t *testing.T) {
	k := newDisk(t, small)
	a := k.begin(t)
	x := api.Inode{Direct: [4]uint16{9, 0, 3, 8}, Ind: 2}
	k.lay(x, 7, 0, 1, 0, 0, 16)
	if l, e := All(a, small, x); !slices.Equal(l, []uint16{9, 3, 8, 7, 1, 16, 2}) || e != api.OK {
		t.Errorf("%v %v", l, e)
	}
	k.lay(x)
	if l, e := All(a, small, x); !slices.Equal(l, []uint16{9, 3, 8, 2}) || e != api.OK {
		t.Errorf("%v %v", l, e)
	}
	x.Ind = 0
	if l, e := All(a, small, x); !slices.Equal(l, []uint16{9, 3, 8}) || e != api.OK {
		t.Errorf("%v %v", l, e)
	}
	if l, e := All(a, small, api.Inode{Kind: api.KindDir}); len(l) != 0 || e != api.OK {
		t.Errorf("%v %v", l, e)
	}
}

// P9.1, P9.2: what is no page has no block, and gets none, with an indirect block or without.
func TestNoPage(t *testing.T) {
	for _, g := range geometries() {
		k := newDisk(t, g)
		for _, x := range inodes(g) {
			k.lay(x, 1, 2, 3)
			a := k.begin(t)
			for _, page := range noPages() {
				refuses(t, a, g, x, askGet(page), api.ErrArg)
				for _, b := range []uint16{0, 1, 5, uint16(g.Blocks), 65535} {
					refuses(t, a, g, x, askSet(page, b), api.ErrArg)
				}
			}
			for _, page := range []int{0, 3, 4, 35} {
				takes(t, a, g, x, askGet(page))
			}
		}
	}
}

// P9.1: Needs is true of the pages from 4 to 35 of an inode without an indirect block, of nothing else.
func TestNeeds(t *testing.T) {
	for _, x := range append(inodes(small), api.Inode{Ind: 65535}, api.Inode{Direct: [4]uint16{65535, 65535, 65535, 65535}}) {
		for page := -40; page < 80; page++ {
			if is := Needs(x, page); is != (page > 3 && page < 36 && x.Ind == 0) {
				t.Errorf("page %d of %v: %v", page, x, is)
			}
		}
		for _, page := range noPages() {
			if Needs(x, page) {
				t.Errorf("page %d of %v", page, x)
			}
		}
	}
}

// P9.2: Set of each page, of all scenes: the inode that comes of it; what is written, which is nothing below page 4, and the indirect block from there on.
func TestSet(t *testing.T) {
	for _, s := range scenes(small) {
		k := newDisk(t, small)
		k.lay(s.x, s.l[:]...)
		for page := range 36 {
			a := k.begin(t)
			if page >= 4 && s.x.Ind == 0 {
				refuses(t, a, small, s.x, askSet(page, 5), api.ErrNone)
				continue
			}
			for _, b := range []uint16{5, 16, 1, 0} {
				sets(t, a, k, s, page, b)
				if page >= 4 { // the list as it was, for the next one
					a.Write(k.sector(s.x.Ind), listing(s.l[:]...))
				}
			}
		}
		if t.Failed() {
			return
		}
	}
}

// P9.2: blocks of two bytes are told, and found again, whole: in the greatest geometry there are such.
func TestSetGreat(t *testing.T) {
	g := api.Geo{Inodes: 256, Blocks: 1024, Journal: 256}
	k := newDisk(t, g)
	a := k.begin(t)
	s := begins(t, a, k, scene{x: api.Inode{Kind: api.KindFile}}, 1023)
	for n, b := range []uint16{255, 256, 257, 511, 512, 513, 1022, 1023, 1024, 1} {
		for _, page := range []int{n % 4, 4 + n, 35 - n} {
			s = sets(t, a, k, s, page, b)
		}
	}
	gets(t, a, g, s)
	has(t, a, g, s)
}

// P9.2: a page that is set twice, to 0, and to the block that it has already: from page 4 on each of these is a write, even in a transaction that has written nothing.
func TestSetAgain(t *testing.T) {
	k := newDisk(t, small)
	s := scene{x: api.Inode{Kind: api.KindFile, Direct: [4]uint16{7, 9}, Ind: 3}}
	s.l[0], s.l[31] = 5, 6
	k.lay(s.x, s.l[:]...)
	for _, page := range []int{0, 1, 3, 4, 10, 35} {
		a, has := k.begin(t), s.block(page)
		sets(t, a, k, s, page, has)
		next := s
		for _, b := range []uint16{10, 11, 11, 0, 0, 10, has} {
			next = sets(t, a, k, next, page, b)
			gets(t, a, small, next)
		}
		if next != s {
			t.Errorf("page %d: %v, want %v", page, next, s)
		}
		if page < 4 {
			continue
		}
		// What lists the block already is written, too: the journal counts a commit.
		b, gen := k.begin(t), k.j.Gen()
		sets(t, b, k, s, page, has)
		if n, e := b.Commit(); n != gen+1 || e != api.OK {
			t.Errorf("page %d: Commit: %d %v, want %d", page, n, e, gen+1)
		}
	}
}

// P9.2: a page that would need an indirect block can't be set, not to 0 either; what is wrong is told ahead of it, and it ahead of what the transaction is.
func TestSetNone(t *testing.T) {
	k := newDisk(t, broad)
	done, full := k.begin(t), k.full(t)
	done.Abort()
	for _, a := range []*tx.Tx{k.begin(t), done, full} {
		for _, x := range inodes(broad) {
			x.Ind = 0
			for page := 4; page < 36; page++ {
				for _, b := range []uint16{0, 1, 5, 16} {
					refuses(t, a, broad, x, askSet(page, b), api.ErrNone)
				}
				for _, b := range []uint16{17, 256, 65535} {
					refuses(t, a, broad, x, askSet(page, b), api.ErrArg)
				}
				refuses(t, a, api.Geo{}, x, askSet(page, 0), api.ErrArg)
				bad := x
				bad.Direct[page%4] = 17
				refuses(t, a, broad, bad, askSet(page, 5), api.ErrArg)
			}
		}
	}
}

// P9.2: Begin writes 32 zeros over whatever was there, and gives the inode with that block; it takes the first one and the last one of each geometry.
func TestBegin(t *testing.T) {
	for _, g := range geometries() {
		k := newDisk(t, g)
		for _, x := range inodes(g) {
			if x.Ind != 0 {
				continue
			}
			for _, ind := range []uint16{1, 2, 6, uint16(g.Blocks - 1), uint16(g.Blocks)} {
				a := k.begin(t)
				s := begins(t, a, k, scene{x: x}, ind)
				gets(t, a, g, s)
				has(t, a, g, s)
				// A list that the transaction itself wrote is overwritten, too.
				s = sets(t, a, k, s, 4, 1)
				begins(t, a, k, scene{x: x}, ind)
			}
		}
	}
	// What has 32 zeros already is written likewise.
	k := newDisk(t, small)
	k.lay(api.Inode{Ind: 5})
	a := k.begin(t)
	begins(t, a, k, scene{}, 5)
	if n, e := a.Commit(); n != 1 || e != api.OK {
		t.Errorf("Commit: %d %v", n, e)
	}
}

// P9.2: Begin takes no 0, no block that the geometry hasn't, and no inode that has an indirect block, be it the same one; whatever the transaction is.
func TestBeginWrong(t *testing.T) {
	for _, g := range geometries() {
		k := newDisk(t, g)
		done := k.begin(t)
		done.Abort()
		for _, a := range []*tx.Tx{k.begin(t), done} {
			for _, x := range inodes(g) {
				for _, ind := range []uint16{0, uint16(g.Blocks + 1), uint16(g.Blocks + 256), 65535} {
					refuses(t, a, g, x, askBegin(ind), api.ErrArg)
				}
				if x.Ind == 0 {
					continue
				}
				for _, ind := range []uint16{1, 6, 7, uint16(g.Blocks)} {
					refuses(t, a, g, x, askBegin(ind), api.ErrArg)
				}
			}
		}
	}
}

// P9.3, P9.4: Cut to each number of pages, of all scenes: the inode and the blocks that become free, what is written, what remains.
func TestCut(t *testing.T) {
	for _, g := range []api.Geo{small, {Inodes: 2, Blocks: 8, Journal: 40}} {
		for _, s := range scenes(g) {
			k := newDisk(t, g)
			k.lay(s.x, s.l[:]...)
			for pages := range 37 {
				a := k.begin(t)
				next := cuts(t, a, k, s, pages)
				gets(t, a, g, next)
				has(t, a, g, next)
				if again := cuts(t, a, k, next, pages); again != next {
					t.Errorf("%v, cut to %d again: %v", next, pages, again)
				}
			}
			if t.Failed() {
				return
			}
		}
	}
}

// P9.3: one cut behind another, down to no page, frees each block once.
func TestCutDown(t *testing.T) {
	for step := 1; step < 37; step++ {
		k := newDisk(t, small)
		s := scene{api.Inode{Kind: api.KindFile, Direct: [4]uint16{3, 1, 4, 2}, Ind: 16}, lists(small)[7]}
		k.lay(s.x, s.l[:]...)
		a := k.begin(t)
		for pages := 36; pages > -step; pages -= step {
			s = cuts(t, a, k, s, max(pages, 0))
			gets(t, a, small, s)
			has(t, a, small, s)
		}
		if s.x != (api.Inode{Kind: api.KindFile}) {
			t.Errorf("by %d: %v", step, s.x)
		}
	}
}

// P9.3: what is no number of pages is refused, and nothing is cut; whatever the transaction is.
func TestCutWrong(t *testing.T) {
	for _, g := range geometries() {
		k := newDisk(t, g)
		done := k.begin(t)
		done.Abort()
		for _, a := range []*tx.Tx{k.begin(t), done} {
			for _, x := range inodes(g) {
				for _, pages := range noPages() {
					if pages != 36 {
						refuses(t, a, g, x, askCut(pages), api.ErrArg)
					}
				}
			}
		}
	}
}

// P9.3: the indirect block is written only if it remains and some element of it changes: whether that element is the first one that is cut, or the last one of all.
func TestCutWrites(t *testing.T) {
	k := newDisk(t, small)
	for at := range 32 {
		s := scene{x: api.Inode{Direct: [4]uint16{1, 2, 3, 4}, Ind: 9}}
		s.l[at] = 7
		k.lay(s.x, s.l[:]...)
		for pages := range 37 {
			a := k.begin(t)
			cuts(t, a, k, s, pages)
			want := []int(nil)
			if pages > 4 && pages <= at+4 {
				want = []int{k.sector(9)}
			}
			if l := a.Touched(); !slices.Equal(l, want) {
				t.Errorf("element %d, cut to %d: touched %v, want %v", at, pages, l, want)
			}
		}
	}
}

// P9.1 to P9.3: without a transaction there is nothing, whatever else is wrong.
func TestNil(t *testing.T) {
	for _, g := range []api.Geo{small, {}, {Inodes: -1, Blocks: -1, Journal: -1}} {
		for _, x := range append(inodes(small), api.Inode{Ind: 17}, api.Inode{Direct: [4]uint16{0, 65535}}) {
			for _, b := range []uint16{0, 1, 16, 17, 65535} {
				l := askers(b)
				for _, page := range noPages() {
					l = append(l, askGet(page), askSet(page, b), askCut(page))
				}
				for _, k := range l {
					if zero, e := k.ask(nil, g, x); !zero || e != api.ErrNil {
						t.Errorf("%s of %v in %v: %v, zero results: %v", k.name, x, g, e, zero)
					}
				}
			}
		}
	}
}

// P9.1 to P9.3: a geometry that is not valid is refused by every function, whether it reads, writes or does neither, and whatever the transaction is.
func TestGeometry(t *testing.T) {
	k := newDisk(t, small)
	done := k.begin(t)
	done.Commit()
	for _, n := range [][3]int{
		{}, {1, 16, 40}, {0, 16, 40}, {257, 16, 40}, {8, 7, 40}, {8, 0, 40}, {8, 1025, 40}, {8, 16, 39}, {8, 16, 0}, {8, 16, 257},
		{-8, 16, 40}, {8, -16, 40}, {8, 16, -40}, {1<<32 + 8, 16, 40}, {8, 1<<32 + 16, 40}, {8, 16, 1<<32 + 40}, {8, 1<<16 + 16, 40},
		{math.MaxInt, math.MaxInt, math.MaxInt}, {math.MinInt, math.MinInt, math.MinInt}, {8, math.MaxInt, 40}, {8, 65535, 40},
	} {
		g := api.Geo{Inodes: n[0], Blocks: n[1], Journal: n[2]}
		for _, a := range []*tx.Tx{k.begin(t), done} {
			for _, b := range []uint16{0, 5} {
				for _, x := range []api.Inode{{}, {Direct: [4]uint16{1, 2, 3, 4}}, {Direct: [4]uint16{7, 9}, Ind: 3}} {
					for _, f := range askers(b) {
						refuses(t, a, g, x, f, api.ErrArg)
					}
				}
			}
		}
	}
}

// P9.1 to P9.3: each block that is passed, or stands in Direct or Ind, is 0 or one of the geometry; if not, every function refuses it, whatever it does with that block, and whatever the transaction is.
func TestBlocks(t *testing.T) {
	for _, g := range geometries() {
		k := newDisk(t, g)
		last := uint16(g.Blocks)
		done := k.begin(t)
		done.Abort()
		for _, bad := range []uint16{last + 1, last + 2, last + 256, 32768, 65535} {
			for at := range 5 {
				for _, x := range []api.Inode{{}, {Direct: [4]uint16{1, 2, 3, 4}}, {Direct: [4]uint16{1, 2, 3, 4}, Ind: 5}} {
					good := x
					if at < 4 {
						x.Direct[at] = bad
					} else {
						x.Ind = bad
					}
					for _, a := range []*tx.Tx{k.begin(t), done} {
						for _, f := range append(askers(0), askers(6)...) {
							refuses(t, a, g, x, f, api.ErrArg)
						}
						for _, f := range []asker{askSet(0, bad), askSet(3, bad), askSet(4, bad), askSet(35, bad), askBegin(bad)} {
							refuses(t, a, g, good, f, api.ErrArg)
						}
					}
				}
			}
		}
		for _, fine := range []uint16{0, 1, last - 1, last} {
			for at := range 5 {
				x := api.Inode{Direct: [4]uint16{1, 2, 3, 4}, Ind: 5}
				if at < 4 {
					x.Direct[at] = fine
				} else {
					x.Ind = fine
				}
				k.lay(x)
				for _, f := range []asker{askGet(0), askGet(35), askSet(0, fine), askSet(3, fine), askAll(), askCut(0), askCut(4), askCut(36)} {
					takes(t, k.begin(t), g, x, f)
				}
				if x.Ind != 0 {
					takes(t, k.begin(t), g, x, askSet(4, fine))
					takes(t, k.begin(t), g, x, askSet(35, fine))
				}
			}
		}
	}
}

// P9.1 to P9.3: in a transaction that is committed or aborted nothing can be read or written, but what needs neither is answered.
func TestDone(t *testing.T) {
	for _, end := range []func(a *tx.Tx){func(a *tx.Tx) { a.Commit() }, func(a *tx.Tx) { a.Abort() }} {
		k := newDisk(t, small)
		a := k.begin(t)
		s := scene{x: api.Inode{Kind: api.KindFile, Direct: [4]uint16{7, 9}, Ind: 3}, l: lists(small)[5]}
		a.Write(k.sector(3), listing(s.l[:]...))
		end(a)
		overIs(t, a, k, s, api.ErrDone)
		refuses(t, a, small, api.Inode{Direct: s.x.Direct}, askBegin(5), api.ErrDone)
		bare(t, a, k)
	}
}

// overIs holds what reads the indirect block against the error, and what needs it not against OK.
func overIs(t *testing.T, a *tx.Tx, k disk, s scene, want api.Errno) {
	t.Helper()
	for page := range 36 {
		if page < 4 {
			takes(t, a, k.g, s.x, askGet(page))
			sets(t, a, k, s, page, 12)
		} else {
			refuses(t, a, k.g, s.x, askGet(page), want)
			refuses(t, a, k.g, s.x, askSet(page, 12), want)
			refuses(t, a, k.g, s.x, askSet(page, s.block(page)), want)
		}
		refuses(t, a, k.g, s.x, askCut(page), want)
	}
	refuses(t, a, k.g, s.x, askAll(), want)
}

// bare holds what is done with inodes that have no indirect block against what it ought to be: nothing is read or written for them.
func bare(t *testing.T, a *tx.Tx, k disk) {
	t.Helper()
	for _, x := range inodes(k.g) {
		x.Ind = 0
		s := scene{x: x}
		gets(t, a, k.g, s)
		has(t, a, k.g, s)
		for page := range 4 {
			sets(t, a, k, s, page, 12)
		}
		for pages := range 37 {
			cuts(t, a, k, s, pages)
		}
	}
}

// P9.2, P9.3: a transaction that has as many sectors as it may takes no other one: Set from page 4 on, Begin, and a Cut by which an element changes are refused, unless the indirect block is among those sectors. What only reads is answered.
func TestFull(t *testing.T) {
	g := broad
	k := newDisk(t, g)
	s := scene{x: api.Inode{Kind: api.KindFile, Direct: [4]uint16{7, 9}, Ind: 3}, l: lists(g)[5]}
	none := scene{x: api.Inode{Direct: s.x.Direct}}
	k.lay(s.x, s.l[:]...)
	a := k.full(t)
	before := viewOf(a)
	gets(t, a, g, s)
	has(t, a, g, s)
	for page := 4; page < 36; page++ {
		refuses(t, a, g, s.x, askSet(page, 12), api.ErrFull)
		refuses(t, a, g, s.x, askSet(page, s.block(page)%17), api.ErrFull)
	}
	for pages := range 37 {
		if pages > 4 && pages < 36 { // its last element is a block
			refuses(t, a, g, s.x, askCut(pages), api.ErrFull)
		} else {
			cuts(t, a, k, s, pages)
		}
	}
	refuses(t, a, g, none.x, askBegin(5), api.ErrFull)
	refuses(t, a, g, none.x, askBegin(3), api.ErrFull)
	bare(t, a, k)
	before.stays(t, "a full transaction", a)
	// With nothing behind page 9, a cut to that many pages or more changes nothing, and is no write.
	short := scene{x: s.x}
	short.l[0], short.l[5] = 8, 6
	k.lay(s.x, short.l[:]...)
	for pages := range 37 {
		if pages > 4 && pages < 10 {
			refuses(t, a, g, s.x, askCut(pages), api.ErrFull)
		} else {
			cuts(t, a, k, short, pages)
		}
	}
	// Where it was written, it may be again.
	b := k.begin(t)
	own := begins(t, b, k, none, 3)
	for i := firstBlock(g) - 1; b.Room() > 0; i-- {
		b.Write(i, numbered(i))
	}
	for page := range 36 {
		own = sets(t, b, k, own, page, uint16(page%16+1))
	}
	refuses(t, b, g, none.x, askBegin(5), api.ErrFull)
	for pages := 36; pages >= 0; pages -= 3 {
		own = cuts(t, b, k, own, pages)
	}
	begins(t, b, k, none, 3)
}

// P9.1 to P9.3: of a device that has failed no list is read that is not of the transaction's own writing; what needs none is answered. Once the device works again, all is as it was.
func TestFailedDevice(t *testing.T) {
	k := newDisk(t, small)
	s := scene{x: api.Inode{Kind: api.KindFile, Direct: [4]uint16{7, 9}, Ind: 3}, l: lists(small)[5]}
	k.lay(s.x, s.l[:]...)
	a := k.begin(t)
	own := begins(t, a, k, scene{x: api.Inode{Direct: [4]uint16{1}}}, 4)
	own = sets(t, a, k, own, 20, 11)
	k.d.Fuse(0)
	overIs(t, a, k, s, api.ErrDown)
	bare(t, a, k)
	gets(t, a, small, own)
	has(t, a, small, own)
	own = cuts(t, a, k, sets(t, a, k, own, 35, 16), 21)
	// A list that is only written needs no device.
	fresh := sets(t, a, k, begins(t, a, k, scene{x: api.Inode{Links: 1}}, 6), 30, 13)
	gets(t, a, small, fresh)
	// What is wrong is told ahead of the failure.
	for _, f := range []asker{askGet(36), askGet(-1), askSet(36, 5), askSet(5, 17), askBegin(5), askCut(-1), askCut(37)} {
		refuses(t, a, small, s.x, f, api.ErrArg)
	}
	refuses(t, a, small, api.Inode{Ind: 17}, askAll(), api.ErrArg)
	refuses(t, a, small, api.Inode{}, askSet(4, 5), api.ErrNone)
	k.d.Crash("")
	gets(t, a, small, s)
	gets(t, a, small, own)
	has(t, a, small, s)
}

// P9.1 to P9.3: a block that the geometry has and the device has not can be told, but neither read nor written as an indirect one.
func TestSmallDevice(t *testing.T) {
	k := sized(t, small, 60) // its last one is the block 13
	for ind := uint16(12); ind <= 16; ind++ {
		a := k.begin(t)
		none := scene{x: api.Inode{Kind: api.KindFile, Direct: [4]uint16{14, 16}}}
		s := scene{x: none.x, l: lists(small)[5]}
		s.x.Ind = ind
		if ind > 13 {
			overIs(t, a, k, s, api.ErrArg)
			refuses(t, a, small, none.x, askBegin(ind), api.ErrArg)
			bare(t, a, k)
			continue
		}
		k.lay(s.x, s.l[:]...)
		gets(t, a, small, s)
		has(t, a, small, s)
		s = sets(t, a, k, s, 10, 15)
		s = cuts(t, a, k, s, 11)
		has(t, a, small, s)
		begins(t, a, k, none, ind)
	}
	// A larger one has all of them where they were.
	k = sized(t, small, 100)
	a := k.begin(t)
	s := begins(t, a, k, scene{}, 16)
	s = sets(t, a, k, s, 35, 16)
	gets(t, a, small, s)
}

// R5: what All and Cut answer is their asker's: changing it changes nothing, and no two answers share memory.
func TestNew(t *testing.T) {
	k := newDisk(t, small)
	for _, s := range scenes(small) {
		k.lay(s.x, s.l[:]...)
		a := k.begin(t)
		ask := func() [][]uint16 {
			first, _ := All(a, small, s.x)
			second, _ := All(a, small, s.x)
			answers := [][]uint16{first, second}
			for _, pages := range []int{0, 1, 4, 4, 36} { // these write nothing
				_, free, _ := Cut(a, small, s.x, pages)
				answers = append(answers, free)
			}
			return answers
		}
		kept := ask()
		for i := range kept {
			want := ask()
			for j := range kept[i] {
				kept[i][j] = 1000
			}
			_ = append(kept[i], 1000)
			for j, l := range kept {
				if j > i && !slices.Equal(l, want[j]) {
					t.Errorf("%v: answer %d has changed with answer %d: %v, want %v", s, j, i, l, want[j])
				}
			}
		}
		gets(t, a, small, s)
		has(t, a, small, s)
	}
}

// R6: the functions keep nothing: two inodes, in two transactions, are each as if the other one were not.
func TestTwo(t *testing.T) {
	k := newDisk(t, small)
	a, b := k.begin(t), k.begin(t)
	x, y := begins(t, a, k, scene{}, 1), begins(t, a, k, scene{}, 2)
	z := begins(t, b, k, scene{}, 1)
	for page := range 36 {
		x = sets(t, a, k, x, page, 3)
		y = sets(t, a, k, y, 35-page, 4)
		z = sets(t, b, k, z, page, uint16(5+page%4))
		gets(t, a, small, x)
		gets(t, a, small, y)
		gets(t, b, small, z)
	}
	has(t, a, small, cuts(t, a, k, x, 9))
	has(t, a, small, y)
	has(t, b, small, z)
}

// P9.4: what was set is got, in the transaction, and behind its commit and a crash in another one.
func TestCommitted(t *testing.T) {
	k := newDisk(t, small)
	a := k.begin(t)
	s := begins(t, a, k, scene{x: api.Inode{Kind: api.KindFile}}, 16)
	for page := range 36 {
		s = sets(t, a, k, s, page, uint16(page%15+1))
	}
	if _, e := a.Commit(); e != api.OK {
		t.Errorf("Commit: %v", e)
	}
	k.d.Crash("")
	b := k.begin(t)
	gets(t, b, small, s)
	has(t, b, small, s)
	next := cuts(t, b, k, s, 10)
	b.Abort()
	c := k.begin(t)
	gets(t, c, small, s)
	if next = cuts(t, c, k, s, 10); next.x != s.x {
		t.Errorf("%v", next.x)
	}
	if _, e := c.Commit(); e != api.OK {
		t.Errorf("Commit: %v", e)
	}
	gets(t, k.begin(t), small, next)
}

// P9.4: of each page that is set, Get gives that block, and of all others what they had, whatever the page was set to, and whatever they have.
func TestGetGivesSet(t *testing.T) {
	for _, s := range scenes(small) {
		k := newDisk(t, small)
		k.lay(s.x, s.l[:]...)
		for page := range 36 {
			a := k.begin(t)
			if Needs(s.x, page) {
				continue
			}
			for _, b := range []uint16{16, 0, 2} {
				out, e := Set(a, small, s.x, page, b)
				if e != api.OK {
					t.Fatalf("Set of page %d of %v: %v", page, s, e)
				}
				for other := range 36 {
					want := s.block(other)
					if other == page {
						want = b
					}
					if got, e := Get(a, small, out, other); got != want || e != api.OK {
						t.Errorf("page %d of %v is %d: page %d: %d %v, want %d", page, s, b, other, got, e, want)
					}
				}
			}
		}
	}
}

// P9.4: what Cut frees and what All gives behind it are together what All gave ahead of it.
func TestCutAndAll(t *testing.T) {
	for _, s := range scenes(small) {
		k := newDisk(t, small)
		k.lay(s.x, s.l[:]...)
		for pages := range 37 {
			a := k.begin(t)
			had, e := All(a, small, s.x)
			out, free, f := Cut(a, small, s.x, pages)
			left, h := All(a, small, out)
			both := slices.Concat(left, free)
			slices.Sort(had)
			slices.Sort(both)
			if !slices.Equal(had, both) || e != api.OK || f != api.OK || h != api.OK {
				t.Errorf("%v, cut to %d: had %v %v, frees %v %v, left %v %v", s, pages, had, e, free, f, left, h)
			}
		}
	}
}

// P9.1 to P9.4: long runs of all functions on three inodes in one transaction after another: each answer, and all that is written, is as the definition has it.
func TestRuns(t *testing.T) {
	for seed := range 40 {
		g := geometries()[seed%2]
		k := newDisk(t, g)
		v := uint32(seed)
		draw := func(n int) int {
			v = v*1664525 + 1013904223
			return int(v>>8) % n
		}
		x := [3]scene{{x: api.Inode{Kind: api.KindFile}}, {x: api.Inode{Kind: api.KindDir, Links: 2, Size: 64}}}
		old := x
		a := k.begin(t)
		for step := range 200 {
			i := draw(3)
			s := x[i]
			page, b := draw(36), uint16(draw(g.Blocks+1))
			switch draw(10) {
			default:
				if Needs(s.x, page) {
					refuses(t, a, g, s.x, askSet(page, b), api.ErrNone)
					continue
				}
				x[i] = sets(t, a, k, s, page, b)
			case 0, 1:
				if s.x.Ind == 0 { // each inode has blocks of its own for this
					x[i] = begins(t, a, k, s, uint16(2*i+draw(2)+1))
				} else {
					refuses(t, a, g, s.x, askBegin(uint16(i+1)), api.ErrArg)
				}
			case 2:
				x[i] = cuts(t, a, k, s, draw(37))
			case 3:
				if draw(2) == 0 {
					a.Commit()
					old = x
				} else {
					a.Abort()
					x = old
				}
				a = k.begin(t)
			}
			for _, s := range x {
				gets(t, a, g, s)
				has(t, a, g, s)
			}
			if t.Failed() {
				t.Fatalf("seed %d, step %d", seed, step)
			}
		}
	}
}
