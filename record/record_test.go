package record_test

import (
	"math"
	"slices"
	"strings"
	"testing"

	"shunter/api"
	"shunter/leb"
	"shunter/record"
)

// edges are decisions and their bytes, written out by hand.
var edges = []struct {
	r     record.Record
	bytes string
}{
	{record.Record{Kind: record.Pick}, "\x00"},
	{record.Record{Kind: record.Victim}, "\x01"},
	{record.Record{Kind: record.Case}, "\x02"},
	{record.Record{Kind: record.Rand}, "\x03"},
	{record.Record{Kind: record.Pick, N: 3}, "\x0c"},
	{record.Record{Kind: record.Victim, N: 3}, "\x0d"},
	{record.Record{Kind: record.Rand, N: 31}, "\x7f"},
	{record.Record{Kind: record.Pick, N: 32}, "\x80\x01"},
	{record.Record{Kind: record.Case, N: 100}, "\x92\x03"},
	{record.Record{Kind: record.Pick, N: 1 << 61}, "\x80\x80\x80\x80\x80\x80\x80\x80\x80\x01"},
	{record.Record{Kind: record.Pick, N: record.MostN}, "\xfc\xff\xff\xff\xff\xff\xff\xff\xff\x01"},
	{record.Record{Kind: record.Rand, N: record.MostN}, "\xff\xff\xff\xff\xff\xff\xff\xff\xff\x01"},
}

func edgeRecords() []record.Record {
	var l []record.Record
	for _, c := range edges {
		l = append(l, c.r)
	}
	return l
}

func edgeBytes() string {
	s := ""
	for _, c := range edges {
		s += c.bytes
	}
	return s
}

// P2.1
func TestKindsAndMostN(t *testing.T) {
	if k := [4]int{record.Pick, record.Victim, record.Case, record.Rand}; k != [4]int{1, 2, 3, 4} {
		t.Errorf("kinds: %v", k)
	}
	if record.MostN != 4611686018427387903 {
		t.Errorf("MostN: %d", uint64(record.MostN))
	}
}

// P2.1
func TestCheck(t *testing.T) {
	for _, c := range []struct {
		kind int
		n    uint64
		want api.Errno
	}{
		{record.Pick, 0, api.OK},
		{record.Victim, 1, api.OK},
		{record.Case, 1 << 61, api.OK},
		{record.Rand, 0, api.OK},
		{record.Pick, 1<<62 - 1, api.OK},
		{record.Rand, 1<<62 - 1, api.OK},
		{record.Pick, 1 << 62, api.ErrBig},
		{record.Rand, 1 << 62, api.ErrBig},
		{record.Case, math.MaxUint64, api.ErrBig},
		{0, 0, api.ErrKind},
		{5, 0, api.ErrKind},
		{-1, 0, api.ErrKind},
		{math.MinInt, 0, api.ErrKind},
		{math.MaxInt, 0, api.ErrKind},
		{0, 1 << 62, api.ErrKind},
		{5, 1 << 62, api.ErrKind},
	} {
		if got := (record.Record{Kind: c.kind, N: c.n}).Check(); got != c.want {
			t.Errorf("Check of %d, %d: %d, not %d", c.kind, c.n, got, c.want)
		}
	}
}

// P2.1
func TestBytesOfEdges(t *testing.T) {
	for _, c := range edges {
		if got := c.r.Bytes(); got != c.bytes {
			t.Errorf("%v.Bytes() = %x, not %x", c.r, got, c.bytes)
		}
		if got := record.Bytes(c.r); got != c.bytes {
			t.Errorf("Bytes(%v) = %x, not %x", c.r, got, c.bytes)
		}
	}
	if got := record.Bytes(); got != "" {
		t.Errorf("Bytes() = %x", got)
	}
	if got := record.Bytes(edgeRecords()...); got != edgeBytes() {
		t.Errorf("Bytes of all = %x, not %x", got, edgeBytes())
	}
}

// K3
func TestBytesLeavesItsListAsItIs(t *testing.T) {
	l := edgeRecords()
	record.Bytes(l...)
	if !slices.Equal(l, edgeRecords()) {
		t.Errorf("the list became %v", l)
	}
}

// P2.1
func TestParseOfEdges(t *testing.T) {
	for _, c := range edges {
		for _, ahead := range []string{"", "\x80", "\x00\xff"} {
			for _, behind := range []string{"", "\x00", "\xff"} {
				r, end, err := record.Parse(ahead+c.bytes+behind, len(ahead))
				if r != c.r || end != len(ahead)+len(c.bytes) || err != api.OK {
					t.Errorf("Parse(%x behind %x) = %v, %d, %d", c.bytes, ahead, r, end, err)
				}
			}
		}
	}
}

// wrong are bytes that are no number, with layer 1's error.
var wrong = []struct {
	s    string
	want api.Errno
}{
	{"\x80", api.ErrEnd},
	{"\xff\xff\xff\xff\xff\xff\xff\xff\xff", api.ErrEnd},
	{"\x80\x00", api.ErrForm},
	{"\x80\x80\x80\x80\x80\x80\x80\x80\x80\x00", api.ErrForm},
	{"\x80\x80\x80\x80\x80\x80\x80\x80\x80\x02", api.ErrForm},
	{"\xff\xff\xff\xff\xff\xff\xff\xff\xff\xff", api.ErrForm},
	{"\xff\xff\xff\xff\xff\xff\xff\xff\xff\xff\x01", api.ErrForm},
}

func checkParseError(t *testing.T, s string, at int, want api.Errno) {
	t.Helper()
	if r, end, err := record.Parse(s, at); r != (record.Record{}) || end != 0 || err != want {
		t.Errorf("Parse(%x, %d) = %v, %d, %d, not error %d", s, at, r, end, err, want)
	}
}

// P2.1
func TestParseOfWrongInputs(t *testing.T) {
	for _, c := range wrong {
		checkParseError(t, c.s, 0, c.want)
		checkParseError(t, "\x0c"+c.s, 1, c.want)
	}
	checkParseError(t, "", 0, api.ErrEnd)
	checkParseError(t, "\x0c", 1, api.ErrEnd)
	checkParseError(t, "\x0c", 2, api.ErrArg)
	checkParseError(t, "\x0c", math.MaxInt, api.ErrArg)
	checkParseError(t, "\x0c", -1, api.ErrArg)
	checkParseError(t, "\x0c", math.MinInt, api.ErrArg)
}

// P2.1
func TestAllStopsAtTheFirstThatIsNone(t *testing.T) {
	behind := []string{""}
	for _, c := range wrong {
		behind = append(behind, c.s)
	}
	for _, b := range behind {
		if l, at := record.All(b); len(l) != 0 || at != 0 {
			t.Errorf("All(%x) = %v, %d", b, l, at)
		}
		if l, at := record.All(edgeBytes() + b); !slices.Equal(l, edgeRecords()) || at != len(edgeBytes()) {
			t.Errorf("All with %x behind = %v, %d", b, l, at)
		}
	}
	if l, at := record.All("\x0c\x80\x00\x0c"); !slices.Equal(l, []record.Record{{Kind: record.Pick, N: 3}}) || at != 1 {
		t.Errorf("All went on behind what is none: %v, %d", l, at)
	}
}

// P2.2
func TestDecisionsThereAndBack(t *testing.T) {
	var l []record.Record
	for kind := record.Pick; kind <= record.Rand; kind++ {
		for i := range 63 {
			n := uint64(1)<<i - 1
			l = append(l, record.Record{Kind: kind, N: n}, record.Record{Kind: kind, N: record.MostN - n})
		}
	}
	for _, r := range l {
		if err := r.Check(); err != api.OK {
			t.Fatalf("%v: %d", r, err)
		}
		s := r.Bytes()
		if s != leb.Put(4*r.N+uint64(r.Kind)-1) {
			t.Errorf("%v.Bytes() = %x", r, s)
		}
		if got, end, err := record.Parse(s, 0); got != r || end != len(s) || err != api.OK {
			t.Errorf("%v came back as %v, %d, %d", r, got, end, err)
		}
	}
	s := record.Bytes(l...)
	if got, at := record.All(s); !slices.Equal(got, l) || at != len(s) {
		t.Errorf("all came back as %d decisions, to byte %d of %d", len(got), at, len(s))
	}
}

func checkRead(t *testing.T, s string) {
	t.Helper()
	n, end, err := leb.Get(s, 0)
	r, rend, rerr := record.Parse(s, 0)
	if rend != end || rerr != err {
		t.Fatalf("Parse(%x): %d, %d, but Get %d, %d", s, rend, rerr, end, err)
	}
	if err != api.OK {
		return
	}
	if r.Check() != api.OK || r.Bytes() != s[:end] || 4*r.N+uint64(r.Kind)-1 != n {
		t.Fatalf("Parse(%x) = %v, whose bytes are %x", s, r, r.Bytes())
	}
}

// P2.2
func TestWhatIsReadHasJustTheseBytes(t *testing.T) {
	for a := range 256 {
		for b := range 256 {
			s := string([]byte{byte(a), byte(b)})
			checkRead(t, s)
			checkRead(t, strings.Repeat("\xff", 8)+s)
			checkRead(t, strings.Repeat("\x80", 8)+s)
			l, at := record.All(s)
			if record.Bytes(l...) != s[:at] {
				t.Fatalf("All(%x) = %v, %d", s, l, at)
			}
		}
	}
}
