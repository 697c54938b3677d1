package image

import (
	"maps"
	"slices"
	"strings"

	"lunette/api"
	"lunette/dirs"
	"lunette/inode"
)

// A plain is a disk within a transaction as the chapter's words have it, step by step in their order, with no care for what an error leaves behind: a step is tried on a copy. It is what the package is held against.
type plain struct {
	g       api.Geo
	sectors []string
	touched map[int]bool
	down    bool // what was not written can't be read
	done    bool
}

// zeros gives n bytes 0.
func zeros(n int) string { return strings.Repeat("\x00", n) }

// refuse ends a step.
func refuse(e api.Errno) { panic(e) }

// copy gives one of its own in the same state.
func (p *plain) copy() *plain {
	c := *p
	c.sectors, c.touched = slices.Clone(p.sectors), maps.Clone(p.touched)
	return &c
}

// try does the step. Whoever calls it drops p if it is refused.
func (p *plain) try(step func(p *plain) any) (v any, e api.Errno) {
	defer func() {
		if r := recover(); r != nil {
			v, e = nil, r.(api.Errno)
		}
	}()
	return step(p), api.OK
}

// The first sectors of the parts behind the journal.
func (p *plain) imap() int  { return 1 + p.g.Journal }
func (p *plain) bmap() int  { return p.imap() + (p.g.Inodes+1+511)/512 }
func (p *plain) table() int { return p.bmap() + (p.g.Blocks+1+511)/512 }
func (p *plain) data() int  { return p.table() + (p.g.Inodes+1)/2 }

// needed gives how many sectors the geometry needs.
func (p *plain) needed() int { return p.data() + p.g.Blocks }

// read gives what the sector has.
func (p *plain) read(i int) string {
	switch {
	case p.done:
		refuse(api.ErrDone)
	case i >= len(p.sectors):
		refuse(api.ErrArg)
	case p.down && !p.touched[i]:
		refuse(api.ErrDown)
	}
	return p.sectors[i]
}

// write makes s what the sector has.
func (p *plain) write(i int, s string) {
	switch {
	case p.done:
		refuse(api.ErrDone)
	case i >= len(p.sectors):
		refuse(api.ErrArg)
	}
	p.sectors[i], p.touched[i] = s, true
}

// bit tells whether the bit i is set, of those that begin in that sector.
func (p *plain) bit(first, i int) bool {
	return p.read(first + i/512)[i%512/8]&(1<<(i%8)) != 0
}

// flip turns the bit round.
func (p *plain) flip(first, i int) {
	b := []byte(p.read(first + i/512))
	b[i%512/8] ^= 1 << (i % 8)
	p.write(first+i/512, string(b))
}

// slot gives the sector of the inode, and where it begins there.
func (p *plain) slot(ino uint32) (int, int) {
	if ino == 0 || int(ino) > p.g.Inodes {
		refuse(api.ErrArg)
	}
	return p.table() + int(ino-1)/2, int(ino-1) % 2 * 32
}

// blockAt gives the sector of the block.
func (p *plain) blockAt(b uint16) int {
	if b == 0 || int(b) > p.g.Blocks {
		refuse(api.ErrArg)
	}
	return p.data() + int(b) - 1
}

func (p *plain) inode(ino uint32) api.Inode {
	sector, from := p.slot(ino)
	x, e := inode.Get(p.read(sector)[from : from+32])
	if e != api.OK {
		refuse(e)
	}
	return x
}

func (p *plain) setInode(ino uint32, x api.Inode) {
	sector, from := p.slot(ino)
	s, e := inode.Put(x)
	if e != api.OK {
		refuse(e)
	}
	now := p.read(sector)
	p.write(sector, now[:from]+s+now[from+32:])
}

func (p *plain) taken(ino uint32) bool {
	p.slot(ino)
	return p.bit(p.imap(), int(ino))
}

func (p *plain) take(ino uint32) {
	if p.taken(ino) {
		refuse(api.ErrHave)
	}
	p.flip(p.imap(), int(ino))
}

func (p *plain) give(ino uint32) {
	if !p.taken(ino) {
		refuse(api.ErrNone)
	}
	p.flip(p.imap(), int(ino))
	p.setInode(ino, api.Inode{})
}

func (p *plain) block() uint16 {
	for b := 1; b <= p.g.Blocks; b++ {
		if !p.bit(p.bmap(), b) {
			p.flip(p.bmap(), b)
			p.write(p.blockAt(uint16(b)), zeros(64))
			return uint16(b)
		}
	}
	refuse(api.ErrFull)
	return 0
}

func (p *plain) takenBlock(b uint16) bool {
	p.blockAt(b)
	return p.bit(p.bmap(), int(b))
}

func (p *plain) giveBlock(b uint16) {
	if !p.takenBlock(b) {
		refuse(api.ErrNone)
	}
	p.flip(p.bmap(), int(b))
}

// free gives how many inodes and blocks are not allocated.
func (p *plain) free() [2]int {
	var n [2]int
	for ino := 1; ino <= p.g.Inodes; ino++ {
		if !p.bit(p.imap(), ino) {
			n[0]++
		}
	}
	for b := 1; b <= p.g.Blocks; b++ {
		if !p.bit(p.bmap(), b) {
			n[1]++
		}
	}
	return n
}

// known refuses an inode that names a block which the geometry has not: layer 9 does so for each of its functions.
func (p *plain) known(x api.Inode) {
	for _, b := range append([]uint16{x.Ind}, x.Direct[:]...) {
		if int(b) > p.g.Blocks {
			refuse(api.ErrArg)
		}
	}
}

// listed gives the k-th block of the indirect one.
func (p *plain) listed(x api.Inode, k int) uint16 {
	if x.Ind == 0 {
		return 0
	}
	s := p.read(p.blockAt(x.Ind))
	return uint16(s[2*k]) + 256*uint16(s[2*k+1])
}

// list makes b the k-th block of the indirect one.
func (p *plain) list(x api.Inode, k int, b uint16) {
	s := []byte(p.read(p.blockAt(x.Ind)))
	s[2*k], s[2*k+1] = byte(b%256), byte(b/256)
	p.write(p.blockAt(x.Ind), string(s))
}

// blockOf gives the page's block.
func (p *plain) blockOf(x api.Inode, page int) uint16 {
	p.known(x)
	if page < 4 {
		return x.Direct[page]
	}
	return p.listed(x, page-4)
}

// live gives an inode that is not free.
func (p *plain) live(ino uint32) api.Inode {
	x := p.inode(ino)
	if x.Kind == 0 {
		refuse(api.ErrNone)
	}
	return x
}

// content gives that of the page.
func (p *plain) content(x api.Inode, page int) string {
	b := p.blockOf(x, page)
	if b == 0 {
		return zeros(64)
	}
	return p.read(p.blockAt(b))
}

func (p *plain) page(ino uint32, page int) string {
	x := p.live(ino)
	if page < 0 || page > 35 {
		refuse(api.ErrArg)
	}
	return p.content(x, page)
}

func (p *plain) setPage(ino uint32, page int, s string) {
	x := p.live(ino)
	if page < 0 || page > 35 || len(s) != 64 || 64*page >= int(x.Size) {
		refuse(api.ErrArg)
	}
	p.known(x)
	if page >= 4 && x.Ind == 0 {
		x.Ind = p.block()
	}
	if p.blockOf(x, page) == 0 {
		b := p.block()
		if page < 4 {
			x.Direct[page] = b
		} else {
			p.list(x, page-4, b)
		}
	}
	p.setInode(ino, x)
	if left := int(x.Size) - 64*page; left < 64 {
		s = s[:left] + zeros(64-left)
	}
	p.write(p.blockAt(p.blockOf(x, page)), s)
}

// cut takes the pages from that one on off the inode, as layer 9 does, and gives the blocks that become free.
func (p *plain) cut(x api.Inode, pages int) (api.Inode, []uint16) {
	p.known(x)
	var lost []uint16
	for page := pages; page < 36; page++ {
		if b := p.blockOf(x, page); b != 0 {
			lost = append(lost, b)
			if page < 4 {
				x.Direct[page] = 0
			} else if pages > 4 {
				p.list(x, page-4, 0)
			}
		}
	}
	// Layer 9 reads the indirect block whenever there is one.
	p.listed(x, 0)
	if pages <= 4 && x.Ind != 0 {
		lost = append(lost, x.Ind)
		x.Ind = 0
	}
	return x, lost
}

func (p *plain) resize(ino, size uint32) {
	x := p.live(ino)
	if size > 2304 || x.Kind == 2 && size%64 != 0 {
		refuse(api.ErrArg)
	}
	x, lost := p.cut(x, int(size+63)/64)
	for _, b := range lost {
		p.giveBlock(b)
	}
	if size%64 != 0 {
		if b := p.blockOf(x, int(size/64)); b != 0 {
			s := p.read(p.blockAt(b))
			p.write(p.blockAt(b), s[:size%64]+zeros(64-int(size%64)))
		}
	}
	x.Size = size
	p.setInode(ino, x)
}

func (p *plain) text(dir uint32) string {
	x := p.live(dir)
	if x.Kind != 2 {
		refuse(api.ErrNotDir)
	}
	s := ""
	for page := 0; 64*page < int(x.Size); page++ {
		s += p.content(x, page)
	}
	return s
}

// become makes now the content of the directory, whose content was is.
func (p *plain) become(dir uint32, was, now string) {
	if len(now) > len(was) {
		p.resize(dir, uint32(len(now)))
	}
	for page := 0; 64*page < len(now); page++ {
		s := now[64*page : 64*page+64]
		if 64*page >= len(was) || was[64*page:64*page+64] != s {
			p.setPage(dir, page, s)
		}
	}
}

func (p *plain) enter(dir uint32, name string, ino uint32) {
	was := p.text(dir)
	now, e := dirs.Add(was, name, ino)
	if e != api.OK {
		refuse(e)
	}
	p.become(dir, was, now)
}

func (p *plain) leave(dir uint32, name string) uint32 {
	was := p.text(dir)
	now, ino, e := dirs.Del(was, name)
	if e != api.OK {
		refuse(e)
	}
	p.become(dir, was, now)
	return ino
}

func (p *plain) blocks(ino uint32) []uint16 {
	x := p.inode(ino)
	p.known(x)
	// What an indirect block lists is told as it stands.
	_, l := p.copy().cut(x, 0)
	return l
}

// formatted gives a formatted disk, sector by sector.
func formatted(g api.Geo) []string {
	p := &plain{g: g}
	p.sectors = make([]string, p.needed())
	for i := range p.sectors {
		p.sectors[i] = zeros(64)
	}
	num := func(n int) string { return string([]byte{byte(n), byte(n >> 8), byte(n >> 16), byte(n >> 24)}) }
	p.sectors[0] = "lunette1" + num(g.Inodes) + num(g.Blocks) + num(g.Journal) + zeros(44)
	p.sectors[p.imap()] = "\x03" + zeros(63)
	p.sectors[p.bmap()] = "\x01" + zeros(63)
	p.sectors[p.table()] = "\x02\x00\x01" + zeros(61)
	return p.sectors
}
