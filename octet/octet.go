// Package octet has numbers and texts as bytes, the lowest byte first.
package octet

import (
	"strings"

	"lunette/api"
)

// numBytes is how many bytes the longest number has.
const numBytes = 8

// outside gives what tells of a number that it is not from lo to hi.
func outside(lo, hi int) func(n int) bool {
	return func(n int) bool { return n < lo || n > hi }
}

// Num gives v as n bytes.
func Num(v uint64, n int) (string, api.Errno) {
	// A shift by all 64 bits leaves 0, so that with eight bytes every v fits.
	if outside(0, numBytes)(n) || v>>(8*n) != 0 {
		return "", api.ErrArg
	}
	b := make([]byte, n)
	for i := range n {
		b[i] = byte(v >> (8 * i))
	}
	return string(b), api.OK
}

// Get gives the number whose bytes s are.
func Get(s string) (uint64, api.Errno) {
	if outside(0, numBytes)(len(s)) {
		return 0, api.ErrLong
	}
	var v uint64
	for i := range len(s) {
		v |= uint64(s[i]) << (8 * i)
	}
	return v, api.OK
}

// Cut gives the first n bytes of s, and the rest.
func Cut(s string, n int) (front, rest string, e api.Errno) {
	if n < 0 {
		return "", "", api.ErrArg
	}
	if outside(0, len(s))(n) {
		return "", "", api.ErrEnd
	}
	return s[:n], s[n:], api.OK
}

// Text8 gives s with its length, a byte, ahead.
func Text8(s string) (string, api.Errno) {
	if outside(0, api.MaxText8)(len(s)) {
		return "", api.ErrLong
	}
	return string([]byte{byte(len(s))}) + s, api.OK
}

// Read8 gives the text that s begins with, its length ahead, and what follows it.
func Read8(s string) (text, rest string, e api.Errno) {
	length, rest, e := Cut(s, 1)
	if e != api.OK {
		return "", "", e
	}
	return Cut(rest, int(length[0]))
}

// Pad gives s with as many bytes 0 behind it as make it n bytes.
func Pad(s string, n int) (string, api.Errno) {
	if outside(0, api.MaxPad)(n) {
		return "", api.ErrArg
	}
	if outside(0, n)(len(s)) {
		return "", api.ErrLong
	}
	return s + strings.Repeat("\x00", n-len(s)), api.OK
}

// Bare gives s without the bytes 0 at its end.
func Bare(s string) string {
	for i := range len(s) {
		end := len(s) - i
		if s[end-1] != 0 {
			return s[:end]
		}
	}
	return ""
}

// Split gives s in parts of n bytes, of which the last one may be shorter.
func Split(s string, n int) ([]string, api.Errno) {
	if n < 1 {
		return nil, api.ErrArg
	}
	var l []string
cutting:
	for s != "" {
		front, rest, e := Cut(s, n)
		switch e {
		case api.OK:
			l, s = append(l, front), rest
		default: // What is left is shorter than a part: it is the last one.
			l = append(l, s)
			break cutting
		}
	}
	return l, api.OK
}
