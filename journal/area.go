package journal

import (
	"slices"

	"lunette/api"
	"lunette/crc"
	"lunette/octet"
)

// An area has its head, then the numbers of a transaction's sectors, then their contents.
const (
	genBytes   = 8
	stateBytes = 1
	countBytes = 2
	sealBytes  = 4

	numBytes  = 2                         // of a sector's number
	perSector = api.SectorSize / numBytes // how many numbers a sector has
)

// A head is what an area's first sector tells: how many transactions were committed in it; whether the last one is not done yet; if so, how many sectors it has.
type head struct {
	gen     uint64
	pending bool
	count   int
}

// number gives v as n bytes. Whatever is told in an area is less than its bytes allow.
func number(v uint64, n int) string {
	s, _ := octet.Num(v, n)
	return s
}

// take gives the number whose bytes are the first n of s, and the rest.
func take(s string, n int) (uint64, string) {
	front, rest, _ := octet.Cut(s, n)
	v, _ := octet.Get(front)
	return v, rest
}

// filled gives s with as many bytes 0 behind it as make it n bytes.
func filled(s string, n int) string {
	s, _ = octet.Pad(s, n)
	return s
}

// parts gives how many parts of at most size n things make.
func parts(n, size int) int { return (n + size - 1) / size }

// sector gives the head as a sector: sealed, so that no other sector is taken for one.
func (h head) sector() string {
	var state uint64
	if h.pending {
		state = 1
	}
	s := number(h.gen, genBytes) + number(state, stateBytes) + number(uint64(h.count), countBytes)
	return crc.Seal(filled(s, api.SectorSize-sealBytes))
}

// readHead gives the head whose sector s is. A sector that is none, as one of bytes 0, is that of an area in which nothing was committed.
func readHead(s string) head {
	text, e := crc.Open(s)
	if e != api.OK {
		return head{}
	}
	gen, rest := take(text, genBytes)
	state, rest := take(rest, stateBytes)
	count, _ := take(rest, countBytes)
	return head{gen: gen, pending: state == 1, count: int(count)}
}

// bodySize gives how many sectors the body of a transaction of so many sectors has.
func bodySize(count int) int { return parts(count, perSector) + count }

// body gives the sectors that have a transaction: the numbers of its sectors, then their contents.
func body(puts []api.Put) []string {
	var numbers, contents []string
	for group := range slices.Chunk(puts, perSector) {
		row := ""
		for _, p := range group {
			row += number(uint64(p.Sector), numBytes)
			contents = append(contents, p.Data)
		}
		numbers = append(numbers, filled(row, api.SectorSize))
	}
	return append(numbers, contents...)
}

// readBody gives the transaction of so many sectors whose body the sectors are.
func readBody(sectors []string, count int) []api.Put {
	var puts []api.Put
	contents := sectors[len(sectors)-count:]
	for k, data := range contents {
		row := sectors[k/perSector]
		v, _ := take(row[k%perSector*numBytes:], numBytes)
		puts = append(puts, api.Put{Sector: int(v), Data: data})
	}
	return puts
}
