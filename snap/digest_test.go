package snap_test

import (
	"encoding/binary"
	"hash/crc32"
	"math"
	"math/rand"
	"slices"
	"testing"

	"shunter/snap"
)

// sum is what a Digest must be, by the library.
func sum(l []int64) uint32 {
	var text []byte
	for _, v := range l {
		text = binary.AppendVarint(text, v)
	}
	return crc32.ChecksumIEEE(text)
}

// P19.1: the sum of the bytes of all numbers.
func TestDigest(t *testing.T) {
	for _, c := range []struct {
		l    []int64
		text string // the bytes, written out
	}{
		{nil, ""},
		{row(), ""},
		{row(0), "\x00"},
		{row(0, 0), "\x00\x00"},
		{row(-1), "\x01"},
		{row(1), "\x02"},
		{row(63), "\x7e"},
		{row(-64), "\x7f"},
		{row(64), "\x80\x01"},
		{row(1, -1, 300), "\x02\x01\xd8\x04"},
		{row(math.MaxInt64), "\xfe\xff\xff\xff\xff\xff\xff\xff\xff\x01"},
		{row(math.MinInt64), "\xff\xff\xff\xff\xff\xff\xff\xff\xff\x01"},
		{row(math.MinInt64, math.MaxInt64), "\xff\xff\xff\xff\xff\xff\xff\xff\xff\x01\xfe\xff\xff\xff\xff\xff\xff\xff\xff\x01"},
	} {
		if got, want := snap.Digest(c.l), crc32.ChecksumIEEE([]byte(c.text)); got != want {
			t.Errorf("Digest of %v: %08x, not %08x", c.l, got, want)
		}
	}
	if snap.Digest(nil) != 0 || snap.Digest(row(0)) != 0xd202ef8d {
		t.Errorf("the document's examples: %08x, %08x", snap.Digest(nil), snap.Digest(row(0)))
	}
}

// P19.1, K3, K4: of long lists, of numbers of each size; the list stays as it is.
func TestDigestOfLongLists(t *testing.T) {
	r := rand.New(rand.NewSource(1))
	for _, long := range []int{1, 2, 10, 100, 4095, 4096, 4097, 100000} {
		l := make([]int64, long)
		for i := range l {
			l[i] = int64(r.Uint64()) >> r.Intn(64)
		}
		still := slices.Clone(l)
		if got, again := snap.Digest(l), snap.Digest(still); got != sum(still) || again != got || !slices.Equal(l, still) {
			t.Errorf("%d numbers: %08x, %08x, not %08x", long, got, again, sum(still))
		}
	}
}

// P19.1: lists that are others, if only in their order, or how many they are.
func TestDigestOfOthers(t *testing.T) {
	seen := map[uint32][]int64{}
	for _, l := range [][]int64{nil, {0}, {0, 0}, {0, 0, 0}, {1}, {-1}, {1, 0}, {0, 1}, {2}, {-2}, {1, -1, 300}, {1, 300, -1}, {64}, {128}, {-128}} {
		n := snap.Digest(l)
		if other, ok := seen[n]; ok {
			t.Errorf("%v and %v: %08x", l, other, n)
		}
		seen[n] = l
	}
}
