package crc_test

import (
	"math/bits"
	"slices"
	"strings"
	"testing"

	"shunter/crc"
)

// exponents are the chapter's polynomial's, but 32.
var exponents = []int{26, 23, 22, 16, 12, 11, 10, 8, 7, 5, 4, 2, 1, 0}

// slow is the sum by the chapter's words, bit by bit: the polynomial's highest exponent at the highest bit, the answer turned round, as the lowest bits go first.
func slow(text string) uint32 {
	var poly uint32
	for _, e := range exponents {
		poly |= 1 << e
	}
	x := ^uint32(0)
	for i := range len(text) {
		for bit := range 8 {
			out := x>>31 ^ uint32(text[i])>>bit&1
			x <<= 1
			if out == 1 {
				x ^= poly
			}
		}
	}
	return ^bits.Reverse32(x)
}

// known are texts and their sums, as they are told of this sum elsewhere.
var known = []struct {
	text string
	sum  uint32
}{
	{"", 0},
	{"123456789", 0xcbf43926},
	{"a", 0xe8b7be43},
	{"abc", 0x352441c2},
	{"\x00", 0xd202ef8d},
	{"\xff", 0xff000000},
	{"\x00\x00\x00\x00", 0x2144df1c},
	{"\xff\xff\xff\xff", 0xffffffff},
	{"The quick brown fox jumps over the lazy dog", 0x414fa339},
}

// noise is a text of so many bytes, the same one each time.
func noise(length int) string {
	b := make([]byte, length)
	x := uint32(length) + 1
	for i := range b {
		x = x*1664525 + 1013904223
		b[i] = byte(x >> 24)
	}
	return string(b)
}

// texts are ordinary ones, and the edges: none, one byte of each kind, one kind of byte only, all bytes, long ones.
func texts() []string {
	l := []string{""}
	for _, c := range known {
		l = append(l, c.text)
	}
	all := ""
	for b := range 256 {
		l = append(l, string([]byte{byte(b)}))
		all += string([]byte{byte(b)})
	}
	l = append(l, all)
	for n := range 70 {
		l = append(l, noise(n), strings.Repeat("\x00", n), strings.Repeat("\xff", n))
	}
	return append(l, noise(5000))
}

// P3.1
func TestKnownSums(t *testing.T) {
	for _, c := range known {
		if got := crc.Of(c.text); got != c.sum {
			t.Errorf("Of(%q) = %08x, not %08x", c.text, got, c.sum)
		}
		if got := (crc.State{}).Add(c.text).Sum(); got != c.sum {
			t.Errorf("Add(%q).Sum() = %08x, not %08x", c.text, got, c.sum)
		}
	}
}

// P3.1
func TestSumsAreThoseOfTheChaptersWords(t *testing.T) {
	for _, s := range texts() {
		want := slow(s)
		if got := crc.Of(s); got != want {
			t.Errorf("Of(%x) = %08x, not %08x", s, got, want)
		}
		if got := (crc.State{}).Add(s).Sum(); got != want {
			t.Errorf("Add(%x).Sum() = %08x, not %08x", s, got, want)
		}
	}
}

// P3.1
func TestNoByteAtAll(t *testing.T) {
	var zero crc.State
	for name, got := range map[string]uint32{
		"Of()":             crc.Of(),
		"Of of no list":    crc.Of([]string(nil)...),
		"Of of nothing":    crc.Of(""),
		"Of of nothings":   crc.Of("", "", ""),
		"a zero State":     zero.Sum(),
		"nothing is added": zero.Add("").Add("").Sum(),
	} {
		if got != 0 {
			t.Errorf("%s: %08x", name, got)
		}
	}
	s := zero.Add("abc")
	if s.Add("") != s {
		t.Error("adding nothing made another state")
	}
}

// P3.1
func TestATextPartedAnywhere(t *testing.T) {
	for _, s := range []string{"123456789", noise(40), strings.Repeat("\x00", 9)} {
		want := slow(s)
		for i := range len(s) + 1 {
			for j := i; j <= len(s); j++ {
				a, b, c := s[:i], s[i:j], s[j:]
				if got := crc.Of(a, b, c); got != want {
					t.Errorf("Of(%x, %x, %x) = %08x, not %08x", a, b, c, got, want)
				}
				if got := (crc.State{}).Add(a).Add(b).Add(c).Sum(); got != want {
					t.Errorf("Add of %x, %x, %x: %08x, not %08x", a, b, c, got, want)
				}
			}
		}
		if got := crc.Of(strings.Split(s, "")...); got != want {
			t.Errorf("Of of each byte of %x: %08x, not %08x", s, got, want)
		}
	}
}

// P3.1
func TestAStateThatIsAddedToStays(t *testing.T) {
	s := crc.State{}.Add("abc")
	kept := s
	one, other := s.Add("x"), s.Add("yz")
	if s != kept || s.Sum() != 0x352441c2 {
		t.Errorf("the state became %08x", s.Sum())
	}
	if one.Sum() != slow("abcx") || other.Sum() != slow("abcyz") {
		t.Errorf("added twice: %08x, %08x", one.Sum(), other.Sum())
	}
	if again := s.Add("x"); again != one || again.Sum() != one.Sum() {
		t.Errorf("the same again: %08x, not %08x", again.Sum(), one.Sum())
	}
	if one.Sum() != slow("abcx") {
		t.Errorf("Sum changed its state: %08x", one.Sum())
	}
}

// K3
func TestOfLeavesItsPartsAsTheyAre(t *testing.T) {
	parts := []string{"123", "", "456789"}
	crc.Of(parts...)
	if !slices.Equal(parts, []string{"123", "", "456789"}) {
		t.Errorf("the parts became %q", parts)
	}
}

// turned is text, with those bits of pattern turned that are 1, from place bit on; a byte's lowest bit stands first.
func turned(text string, bit int, pattern uint32) string {
	b := []byte(text)
	for i := range 32 {
		if pattern>>i&1 == 1 {
			b[(bit+i)/8] ^= 1 << ((bit + i) % 8)
		}
	}
	return string(b)
}

// patterns are bursts of just so many bits: the first one and the last one are others, those between all of them, none, each second one, or some.
func patterns(length int) []uint32 {
	if length == 1 {
		return []uint32{1}
	}
	ends := uint32(1) | 1<<(length-1)
	within := ^uint32(0) >> (32 - length)
	l := []uint32{ends, within, ends | within&0x55555555, ends | within&0xaaaaaaaa}
	x := uint32(length)
	for range 4 {
		x = x*1664525 + 1013904223
		l = append(l, ends|within&(x>>3|x<<29))
	}
	return l
}

// P3.2
func TestBursts(t *testing.T) {
	for _, s := range []string{"a", "Sg\x00\x00", noise(5), noise(24), strings.Repeat("\x00", 12), strings.Repeat("\xff", 12)} {
		sum := crc.Of(s)
		for length := 1; length <= min(32, 8*len(s)); length++ {
			for bit := 0; bit+length <= 8*len(s); bit++ {
				for _, p := range patterns(length) {
					if other := turned(s, bit, p); other == s || crc.Of(other) == sum {
						t.Fatalf("%x, with bits %b at %d turned: %08x", s, p, bit, sum)
					}
				}
			}
		}
	}
}

// P3.2
func TestAllShortBursts(t *testing.T) {
	s := noise(6)
	sum := crc.Of(s)
	for _, bit := range []int{0, 5, 8*len(s) - 10} {
		for p := uint32(1); p < 1<<10; p++ {
			if crc.Of(turned(s, bit, p)) == sum {
				t.Fatalf("%x, with bits %b at %d turned: %08x", s, p, bit, sum)
			}
		}
	}
}

// P3.2
func TestBurstsOfALongText(t *testing.T) {
	s := noise(5000)
	sum := crc.Of(s)
	for _, length := range []int{1, 2, 8, 31, 32} {
		for _, bit := range []int{0, 1, 7, 8, 19999, 8*len(s) - length - 1, 8*len(s) - length} {
			for _, p := range patterns(length) {
				if crc.Of(turned(s, bit, p)) == sum {
					t.Errorf("bits %b at %d turned: %08x", p, bit, sum)
				}
			}
		}
	}
}

// P3.2: one bit more, and the sums may be the same, as those of the polynomial itself are; so the bound is the chapter's.
func TestThePolynomialItselfIsNotTold(t *testing.T) {
	s := []byte(noise(12))
	sum := crc.Of(string(s))
	// Bits are counted as they go: x^32 first.
	for _, e := range append([]int{32}, exponents...) {
		at := 20 + 32 - e
		s[at/8] ^= 1 << (at % 8)
	}
	if got := crc.Of(string(s)); got != sum {
		t.Errorf("%08x, not %08x", got, sum)
	}
}
