package leb_test

import (
	"math"
	"strings"
	"testing"

	"shunter/api"
	"shunter/leb"
)

// edges are numbers and their bytes, written out by hand.
var edges = []struct {
	n     uint64
	bytes string
}{
	{0, "\x00"},
	{1, "\x01"},
	{127, "\x7f"},
	{128, "\x80\x01"},
	{129, "\x81\x01"},
	{300, "\xac\x02"},
	{16383, "\xff\x7f"},
	{16384, "\x80\x80\x01"},
	{1<<56 - 1, "\xff\xff\xff\xff\xff\xff\xff\x7f"},
	{1 << 56, "\x80\x80\x80\x80\x80\x80\x80\x80\x01"},
	{1<<63 - 1, "\xff\xff\xff\xff\xff\xff\xff\xff\x7f"},
	{1 << 63, "\x80\x80\x80\x80\x80\x80\x80\x80\x80\x01"},
	{math.MaxUint64, "\xff\xff\xff\xff\xff\xff\xff\xff\xff\x01"},
}

// nearPowers are the numbers beside each power of two.
func nearPowers() []uint64 {
	l := []uint64{0, math.MaxUint64}
	for i := range 64 {
		p := uint64(1) << i
		l = append(l, p-1, p, p+1, ^p)
	}
	return l
}

// P1.1
func TestPutAndLenOfEdges(t *testing.T) {
	for _, c := range edges {
		if got := leb.Put(c.n); got != c.bytes {
			t.Errorf("Put(%d) = %x, not %x", c.n, got, c.bytes)
		}
		if got := leb.Len(c.n); got != len(c.bytes) {
			t.Errorf("Len(%d) = %d, not %d", c.n, got, len(c.bytes))
		}
	}
	if leb.MostLen != len(leb.Put(math.MaxUint64)) {
		t.Errorf("MostLen = %d", leb.MostLen)
	}
}

// P1.1
func TestGetOfEdges(t *testing.T) {
	for _, c := range edges {
		for _, ahead := range []string{"", "\x80", "Sg\xff\xff"} {
			for _, behind := range []string{"", "\x00", "\xff\xff"} {
				n, end, err := leb.Get(ahead+c.bytes+behind, len(ahead))
				if n != c.n || end != len(ahead)+len(c.bytes) || err != api.OK {
					t.Errorf("Get(%x behind %x) = %d, %d, %d", c.bytes, ahead, n, end, err)
				}
			}
		}
	}
}

// P1.1
func TestGetOfWrongInputs(t *testing.T) {
	nine := strings.Repeat("\x80", 9)
	for _, c := range []struct {
		name string
		s    string
		at   int
		want api.Errno
	}{
		{"at below 0", "a", -1, api.ErrArg},
		{"at far below 0", "a", math.MinInt, api.ErrArg},
		{"at beyond the end", "a", 2, api.ErrArg},
		{"at beyond the end of nothing", "", 1, api.ErrArg},
		{"at far beyond the end", nine, math.MaxInt, api.ErrArg},
		{"nothing", "", 0, api.ErrEnd},
		{"at the end", "a", 1, api.ErrEnd},
		{"one byte with more to come", "\x80", 0, api.ErrEnd},
		{"nine bytes with more to come", nine, 0, api.ErrEnd},
		{"nine bytes with more to come, behind others", "ab" + nine, 2, api.ErrEnd},
		{"ten bytes with more to come", nine + "\x80", 0, api.ErrForm},
		{"ten bytes with more to come, all bits", strings.Repeat("\xff", 10), 0, api.ErrForm},
		{"ten bytes with more to come, then an end", nine + "\x80\x01", 0, api.ErrForm},
		{"eleven bytes with more to come", nine + "\x80\x80", 0, api.ErrForm},
		{"a needless last byte", "\x80\x00", 0, api.ErrForm},
		{"a needless last byte behind all bits", "\xff\x00", 0, api.ErrForm},
		{"a needless third byte", "\x80\x80\x00", 0, api.ErrForm},
		{"a needless ninth byte", nine[:8] + "\x00", 0, api.ErrForm},
		{"a needless tenth byte", nine + "\x00", 0, api.ErrForm},
		{"a tenth byte of 2", nine + "\x02", 0, api.ErrForm},
		{"a tenth byte of 3", nine + "\x03", 0, api.ErrForm},
		{"a tenth byte of 127", nine + "\x7f", 0, api.ErrForm},
	} {
		if n, end, err := leb.Get(c.s, c.at); n != 0 || end != 0 || err != c.want {
			t.Errorf("%s: %d, %d, %d, not error %d", c.name, n, end, err, c.want)
		}
	}
}

// P1.2
func TestNumbersThereAndBack(t *testing.T) {
	for _, n := range nearPowers() {
		s := leb.Put(n)
		if len(s) != leb.Len(n) || len(s) > leb.MostLen {
			t.Errorf("%d has %d bytes, Len %d", n, len(s), leb.Len(n))
		}
		if got, end, err := leb.Get(s, 0); got != n || end != len(s) || err != api.OK {
			t.Errorf("%d came back as %d, %d, %d", n, got, end, err)
		}
		for cut := range len(s) {
			if got, end, err := leb.Get(s[:cut], 0); got != 0 || end != 0 || err != api.ErrEnd {
				t.Errorf("%d, cut at %d: %d, %d, %d", n, cut, got, end, err)
			}
		}
	}
}

// firstBelow128 is the place of the first byte below 128; -1: there is none.
func firstBelow128(s string) int {
	for i := range len(s) {
		if s[i] < 128 {
			return i
		}
	}
	return -1
}

// expect is what the chapter's words say of Get at 0, in their order.
func expect(s string) api.Errno {
	last := firstBelow128(s)
	switch {
	case last < 0 && len(s) >= 10, last >= 10:
		return api.ErrForm
	case last < 0:
		return api.ErrEnd
	case s[last] == 0 && last > 0, s[last] > 1 && last == 9:
		return api.ErrForm
	}
	return api.OK
}

func checkRead(t *testing.T, s string) {
	t.Helper()
	n, end, err := leb.Get(s, 0)
	if want := expect(s); err != want {
		t.Fatalf("Get(%x): error %d, not %d", s, err, want)
	}
	if err == api.OK && leb.Put(n) != s[:end] {
		t.Fatalf("Get(%x) read %d, whose bytes are %x", s, n, leb.Put(n))
	}
	if err != api.OK && (n != 0 || end != 0) {
		t.Fatalf("Get(%x): %d, %d beside an error", s, n, end)
	}
}

// P1.2
func TestNoOtherBytesAreReadAsANumber(t *testing.T) {
	for a := range 256 {
		checkRead(t, string([]byte{byte(a)}))
		for b := range 256 {
			checkRead(t, string([]byte{byte(a), byte(b)}))
			for _, c := range []byte{0, 1, 127, 128, 255} {
				checkRead(t, string([]byte{byte(a), byte(b), c}))
			}
			for _, ahead := range []string{"\x80", "\xff", "\xaa"} {
				long := strings.Repeat(ahead, 8)
				checkRead(t, long+string([]byte{byte(a), byte(b)}))
				checkRead(t, long+string([]byte{byte(a), byte(b), 1}))
			}
		}
	}
}

// P1.1
func TestZigOfEdges(t *testing.T) {
	for _, c := range []struct {
		n    int64
		want uint64
	}{
		{0, 0}, {-1, 1}, {1, 2}, {-2, 3}, {2, 4}, {-3, 5},
		{math.MaxInt64, math.MaxUint64 - 1},
		{math.MinInt64, math.MaxUint64},
	} {
		if got := leb.Zig(c.n); got != c.want {
			t.Errorf("Zig(%d) = %d, not %d", c.n, got, c.want)
		}
		if got := leb.Zag(c.want); got != c.n {
			t.Errorf("Zag(%d) = %d, not %d", c.want, got, c.n)
		}
	}
}

// P1.2
func TestSignsThereAndBack(t *testing.T) {
	for _, n := range nearPowers() {
		if got := leb.Zig(leb.Zag(n)); got != n {
			t.Errorf("Zig(Zag(%d)) = %d", n, got)
		}
		if got := leb.Zag(leb.Zig(int64(n))); got != int64(n) {
			t.Errorf("Zag(Zig(%d)) = %d", int64(n), got)
		}
	}
}
