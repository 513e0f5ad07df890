// Package leb is layer 1: see shared/doc/01-leb.md.
package leb

import (
	"math/bits"

	"shunter/api"
)

// MostLen is how many bytes a number has at most.
const MostLen = 10

const (
	perByte = 7            // bits of a number in each of its bytes
	more    = 1 << perByte // what each byte but the last one has besides
)

// Put: a number's bytes.
func Put(n uint64) string {
	var b [MostLen]byte
	at := 0
	for ; n >= more; n >>= perByte {
		b[at] = byte(n) | more
		at++
	}
	b[at] = byte(n)
	return string(b[:at+1])
}

// Get: the number that stands at a byte, the byte behind it.
func Get(s string, at int) (uint64, int, api.Errno) {
	if at < 0 || at > len(s) {
		return 0, 0, api.ErrArg
	}
	var n uint64
	for i := range MostLen {
		if at+i == len(s) {
			return 0, 0, api.ErrEnd
		}
		b := s[at+i]
		n |= uint64(b&^more) << (perByte * i)
		if b >= more {
			continue
		}
		if !mayEnd(i, b) {
			return 0, 0, api.ErrForm
		}
		return n, at + i + 1, api.OK
	}
	return 0, 0, api.ErrForm
}

// mayEnd: a number's bytes are as few as can be, so none but a lone one is 0 at the end; nine hold 63 bits, which leaves one bit for the tenth.
func mayEnd(place int, last byte) bool {
	if place == MostLen-1 {
		return last == 1
	}
	return last != 0 || place == 0
}

// Zig: a number with a sign as one without: 0, -1, 1, -2 ..
func Zig(n int64) uint64 {
	return uint64(n<<1) ^ uint64(n>>63)
}

// Zag: and back.
func Zag(n uint64) int64 {
	return int64(n>>1) ^ -int64(n&1)
}

// Len: how many bytes a number has.
func Len(n uint64) int {
	// 0 has a byte, too, though it has no bits.
	return (bits.Len64(n|1) + perByte - 1) / perByte
}
