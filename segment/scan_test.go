package segment_test

import (
	"math"
	"slices"
	"strconv"
	"strings"
	"testing"

	"shunter/segment"
)

// shown is what a see was handed.
type shown struct {
	body string
	end  int
}

// String: short, as a body may be long.
func (s shown) String() string {
	return strconv.Quote(s.body[:min(len(s.body), 20)]) + " to " + strconv.Itoa(s.end)
}

// scan is Scan, with a see that is false for the stop-th body (from 0 on; below 0: for none), and what it was handed.
func scan(s string, seq uint64, stop int) ([]shown, int) {
	var l []shown
	end := segment.Scan(s, seq, func(body string, end int) bool {
		l = append(l, shown{body, end})
		return len(l)-1 != stop
	})
	return l, end
}

func checkScan(t *testing.T, s string, seq uint64, stop int, want []shown, end int) {
	t.Helper()
	if l, e := scan(s, seq, stop); !slices.Equal(l, want) || e != end {
		t.Errorf("Scan(%.60x, %d), false at %d: %v, %d, not %v, %d", s, seq, stop, l, e, want, end)
	}
}

// row is segments numbered from seq on, and what a see is handed of them.
func row(seq uint64, bodies ...string) (string, []shown) {
	s := ""
	var l []shown
	for _, body := range bodies {
		s += framed(seq, body)
		l = append(l, shown{body, len(s)})
		seq++
	}
	return s, l
}

func ends(l []shown) int {
	if len(l) == 0 {
		return 0
	}
	return l[len(l)-1].end
}

// P5.1
func TestScan(t *testing.T) {
	for _, seq := range []uint64{0, 1, 126, 300, 1<<32 - 2, math.MaxInt64, math.MaxUint64 - 4} {
		for n := range 5 {
			s, l := row(seq, []string{"a", "", noise(4096), "Sg", "a"}[:n]...)
			checkScan(t, s, seq, -1, l, len(s))
		}
	}
}

// P5.1
func TestScanOfNone(t *testing.T) {
	for _, s := range []string{"", "S", "Sg", "x", "Sg\x00\x00", "x" + framed(0, "a"), framed(0, "abc")[:10], framed(0, "a")[1:]} {
		checkScan(t, s, 0, -1, nil, 0)
	}
	// A body too long, though all else is as it must be.
	checkScan(t, summed("Sg\x00"+number(4097)+noise(4097)), 0, -1, nil, 0)
}

// P5.1
func TestScanFromAnotherNumber(t *testing.T) {
	s, l := row(5, "a", "b", "c")
	for _, seq := range []uint64{0, 1, 4, 6, 7, 8, 5 + 1<<32, 5 + 1<<63, math.MaxUint64} {
		checkScan(t, s, seq, -1, nil, 0)
	}
	checkScan(t, s, 5, -1, l, len(s))
}

// P5.1
func TestScanOfARowWithAGap(t *testing.T) {
	s, l := row(5, "a", "b", "c")
	for _, next := range []uint64{0, 5, 6, 7, 9, 10, math.MaxUint64} {
		checkScan(t, s+framed(next, "d")+framed(next+1, "e"), 5, -1, l, len(s))
	}
	checkScan(t, framed(7, "z")+s, 5, -1, nil, 0)
}

// P5.1: numbers are added to as in Go.
func TestScanBehindTheGreatestNumber(t *testing.T) {
	s, l := row(math.MaxUint64-1, "a", "b", "c", "d")
	checkScan(t, s, math.MaxUint64-1, -1, l, len(s))
	checkScan(t, framed(math.MaxUint64, "a")+framed(math.MaxUint64, "b"), math.MaxUint64, -1, []shown{{"a", len(framed(math.MaxUint64, "a"))}}, len(framed(math.MaxUint64, "a")))
}

// P5.1
func TestScanUpToAFalse(t *testing.T) {
	s, l := row(0, "a", "", "bc", "d", "efg")
	for stop := range l {
		checkScan(t, s, 0, stop, l[:stop+1], ends(l[:stop]))
	}
	checkScan(t, s, 0, len(l), l, len(s))
}

// P5.1, P5.3
func TestScanOfWhatIsSpoilt(t *testing.T) {
	s, l := row(0, "a", "", "bc", "d")
	whole := 0 // segments ahead of byte i
	for i := range len(s) {
		if i == l[whole].end {
			whole++
		}
		want := l[:whole]
		checkScan(t, s[:i], 0, -1, want, ends(want))
		b := []byte(s)
		b[i] ^= 1 << (i % 8)
		checkScan(t, string(b), 0, -1, want, ends(want))
	}
	for _, behind := range []string{"S", "Sg", "Sg\x04", "x", "\x00", "Sg\x80\x00", strings.Repeat("Sg", 3000)} {
		checkScan(t, s+behind, 0, -1, l, len(s))
		checkScan(t, s+behind+framed(4, "e"), 0, -1, l, len(s))
	}
}

// P5.1
func TestScanOfManySegments(t *testing.T) {
	var bodies []string
	for i := range 1000 {
		bodies = append(bodies, strconv.Itoa(i))
	}
	s, l := row(0, bodies...)
	checkScan(t, s, 0, -1, l, len(s))
	checkScan(t, s, 0, 777, l[:778], l[776].end)
}

// P1: a see that isn't there is true for none.
func TestScanWithoutASee(t *testing.T) {
	for _, s := range []string{"", "x", framed(0, "a"), framed(0, "") + framed(1, "b")} {
		if end := segment.Scan(s, 0, nil); end != 0 {
			t.Errorf("Scan(%x, 0, nil) = %d", s, end)
		}
	}
}

// P5.1
func TestScanWithinAScan(t *testing.T) {
	inner, l := row(0, "x", "y")
	outer, _ := row(0, inner, inner)
	var all []shown
	end := segment.Scan(outer, 0, func(body string, _ int) bool {
		got, e := scan(body, 0, -1)
		all = append(all, got...)
		return e == len(body)
	})
	if end != len(outer) || !slices.Equal(all, slices.Concat(l, l)) {
		t.Errorf("%d, %v", end, all)
	}
}
