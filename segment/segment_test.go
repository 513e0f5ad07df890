package segment_test

import (
	"encoding/binary"
	"hash/crc32"
	"math"
	"strings"
	"testing"

	"shunter/api"
	"shunter/segment"
)

// summed is a text with its sum behind, the lowest byte first.
func summed(text string) string {
	return text + string(binary.LittleEndian.AppendUint32(nil, crc32.ChecksumIEEE([]byte(text))))
}

// number is a number's bytes, seven bits in each.
func number(n uint64) string {
	return string(binary.AppendUvarint(nil, n))
}

// framed is a segment by the chapter's words.
func framed(seq uint64, body string) string {
	return summed("Sg" + number(seq) + number(uint64(len(body))) + body)
}

// noise is a text of so many bytes, the same one each time.
func noise(length int) string {
	b := make([]byte, length)
	x := uint32(length) + 1
	for i := range b {
		x = x*1664525 + 1013904223
		b[i] = byte(x >> 24)
	}
	return string(b)
}

func numbers() []uint64 {
	return []uint64{0, 1, 83, 127, 128, 300, 1<<14 - 1, 1 << 14, 1 << 31, 1 << 32, 1 << 62, math.MaxInt64, 1 << 63, math.MaxUint64 - 1, math.MaxUint64}
}

func bodies() []string {
	return []string{
		"", "\x00", "S", "hello", "Sg\x00\x00", framed(0, "Sg"), "\xff\xff\xff\xff", noise(127), noise(128),
		noise(4095), noise(4096), strings.Repeat("\x00", 4096),
	}
}

// known are segments, written out by hand.
var known = []struct {
	seq   uint64
	body  string
	bytes string
}{
	{0, "", "Sg\x00\x00\xf5\xa2\x64\xb5"},
	{300, "hello", "Sg\xac\x02\x05hello\x92\x9a\x29\x43"},
	{0, "\x0c\x47", "Sg\x00\x02\x0c\x47\xf6\x3f\x43\x57"},
}

func checkOpened(t *testing.T, s string, at int, seq uint64, body string, end int) {
	t.Helper()
	n, b, e, err := segment.Open(s, at)
	if n != seq || b != body || e != end || err != api.OK {
		t.Errorf("Open(%.40x, %d) = %d, %.40x, %d, %d, not %d, %.40x, %d", s, at, n, b, e, err, seq, body, end)
	}
}

func checkRefused(t *testing.T, s string, at int, want api.Errno) {
	t.Helper()
	if n, b, e, err := segment.Open(s, at); n != 0 || b != "" || e != 0 || err != want {
		t.Errorf("Open(%.40x, %d) = %d, %.40x, %d, %d, not error %d", s, at, n, b, e, err, want)
	}
}

// P5.1: the chapter's example among them.
func TestKnownSegments(t *testing.T) {
	for _, c := range known {
		if got, err := segment.Frame(c.seq, c.body); got != c.bytes || err != api.OK {
			t.Errorf("Frame(%d, %q) = %x, %d, not %x", c.seq, c.body, got, err, c.bytes)
		}
		checkOpened(t, c.bytes, 0, c.seq, c.body, len(c.bytes))
	}
}

// P5.1
func TestMaxBody(t *testing.T) {
	if segment.MaxBody != 4096 {
		t.Errorf("MaxBody: %d", segment.MaxBody)
	}
}

// P5.1
func TestFrame(t *testing.T) {
	for _, seq := range numbers() {
		for _, body := range bodies() {
			if got, err := segment.Frame(seq, body); got != framed(seq, body) || err != api.OK {
				t.Errorf("Frame(%d, %.40x) = %.60x, %d, not %.60x", seq, body, got, err, framed(seq, body))
			}
		}
	}
}

// P5.1
func TestFrameOfABodyTooLong(t *testing.T) {
	for _, length := range []int{4097, 4098, 8192, 1 << 17} {
		for _, seq := range []uint64{0, 300, math.MaxUint64} {
			if got, err := segment.Frame(seq, noise(length)); got != "" || err != api.ErrBig {
				t.Errorf("Frame of %d bytes: %.40x, %d", length, got, err)
			}
		}
	}
}

// P5.2
func TestThereAndBack(t *testing.T) {
	around := []string{"", "S", "Sg", "Sg\x00\x00", "\x00", framed(1, "another")}
	for _, seq := range numbers() {
		for _, body := range bodies() {
			s, err := segment.Frame(seq, body)
			if err != api.OK {
				t.Fatalf("Frame(%d, %.40x): %d", seq, body, err)
			}
			for _, ahead := range around {
				for _, behind := range around {
					checkOpened(t, ahead+s+behind, len(ahead), seq, body, len(ahead)+len(s))
				}
			}
		}
	}
}

// P5.1
func TestOpenOutside(t *testing.T) {
	for _, s := range []string{"", "S", framed(0, ""), framed(300, "hello"), "\xff"} {
		for _, at := range []int{math.MinInt, -len(s) - 1, -2, -1, len(s) + 1, len(s) + 2, math.MaxInt - 3, math.MaxInt} {
			checkRefused(t, s, at, api.ErrArg)
		}
		checkRefused(t, s, len(s), api.ErrEnd)
	}
}

// P5.1
func TestOpenOfAnotherMark(t *testing.T) {
	whole := framed(300, "hello")
	for b := range 256 {
		c := string([]byte{byte(b)})
		if c != "S" {
			checkRefused(t, c, 0, api.ErrForm)
			checkRefused(t, c+"g", 0, api.ErrForm)
			checkRefused(t, c+whole[1:], 0, api.ErrForm)
			checkRefused(t, summed(c+whole[1:len(whole)-4]), 0, api.ErrForm)
			checkRefused(t, "S"+c, 1, api.ErrForm)
		}
		if c != "g" {
			checkRefused(t, "S"+c, 0, api.ErrForm)
			checkRefused(t, "S"+c+whole[2:], 0, api.ErrForm)
			checkRefused(t, summed("S"+c+whole[2:len(whole)-4]), 0, api.ErrForm)
			checkRefused(t, whole+"S"+c, len(whole), api.ErrForm)
		}
	}
	checkRefused(t, "", 0, api.ErrEnd)
	checkRefused(t, "S", 0, api.ErrEnd)
	checkRefused(t, "Sg", 0, api.ErrEnd)
	checkRefused(t, "xxS", 2, api.ErrEnd)
	checkRefused(t, "Sg", 1, api.ErrForm)
}

// wrong are bytes that are no number, with layer 1's error; those of ErrEnd have an end behind them.
var wrong = []struct {
	s    string
	want api.Errno
}{
	{"", api.ErrEnd},
	{"\x80", api.ErrEnd},
	{"\xff\xff\xff\xff\xff\xff\xff\xff\xff", api.ErrEnd},
	{"\x80\x00", api.ErrForm},
	{"\xff\x80\x00", api.ErrForm},
	{"\x80\x80\x80\x80\x80\x80\x80\x80\x80\x00", api.ErrForm},
	{"\x80\x80\x80\x80\x80\x80\x80\x80\x80\x02", api.ErrForm},
	{"\xff\xff\xff\xff\xff\xff\xff\xff\xff\x7f", api.ErrForm},
	{"\xff\xff\xff\xff\xff\xff\xff\xff\xff\xff", api.ErrForm},
	{"\xff\xff\xff\xff\xff\xff\xff\xff\xff\xff\x01", api.ErrForm},
}

// P5.1
func TestOpenOfWhatIsNoNumber(t *testing.T) {
	for _, c := range wrong {
		for _, ahead := range []string{"", "S", framed(0, "")} {
			checkRefused(t, ahead+"Sg"+c.s, len(ahead), c.want)
			for _, seq := range numbers() {
				checkRefused(t, ahead+"Sg"+number(seq)+c.s, len(ahead), c.want)
			}
		}
		if c.want == api.ErrEnd {
			continue
		}
		checkRefused(t, summed("Sg"+c.s+"\x00"), 0, c.want)
		checkRefused(t, summed("Sg\x00"+c.s), 0, c.want)
		checkRefused(t, summed("Sg\x00"+c.s)+strings.Repeat("\x00", 5000), 0, c.want)
		// The number's error is met first.
		checkRefused(t, "Sg"+c.s+number(5000), 0, c.want)
		checkRefused(t, "Sg"+c.s+"\x80", 0, c.want)
	}
	checkRefused(t, "Sg\x80\x00\x80", 0, api.ErrForm)
	checkRefused(t, "Sg\x80", 0, api.ErrEnd)
}

// P5.1
func TestOpenOfALengthTooGreat(t *testing.T) {
	lengths := []uint64{4097, 4098, 4224, 8192, 1 << 16, 1<<31 - 1, 1 << 31, 1 << 32, 1<<32 + 5, 1<<63 - 1, 1 << 63, math.MaxUint64 - 8, math.MaxUint64}
	for _, length := range lengths {
		for _, seq := range []uint64{0, 300, math.MaxUint64} {
			head := "Sg" + number(seq) + number(length)
			checkRefused(t, head, 0, api.ErrBig)
			checkRefused(t, summed(head), 0, api.ErrBig)
			checkRefused(t, "xyz"+summed(head+"hello"), 3, api.ErrBig)
			if length < 1<<17 {
				checkRefused(t, summed(head+noise(int(length))), 0, api.ErrBig)
				checkRefused(t, summed(head+noise(int(length)))+noise(100), 0, api.ErrBig)
			}
		}
	}
	checkRefused(t, "Sg\x00"+number(4096), 0, api.ErrEnd)
	checkRefused(t, summed("Sg\x00"+number(4096)+noise(4095)), 0, api.ErrEnd)
}

// P5.1
func TestOpenOfAnotherSum(t *testing.T) {
	for _, body := range []string{"", "hello", noise(4096)} {
		s := framed(300, body)
		for i := len(s) - 4; i < len(s); i++ {
			for turn := 1; turn < 256; turn++ {
				b := []byte(s)
				b[i] ^= byte(turn)
				checkRefused(t, string(b), 0, api.ErrSum)
			}
		}
		text := s[:len(s)-4]
		sum := crc32.ChecksumIEEE([]byte(text))
		checkRefused(t, text+string(binary.BigEndian.AppendUint32(nil, sum)), 0, api.ErrSum)
		checkRefused(t, text+string(binary.LittleEndian.AppendUint32(nil, ^sum)), 0, api.ErrSum)
		checkRefused(t, text+string(binary.LittleEndian.AppendUint32(nil, crc32.ChecksumIEEE([]byte(body)))), 0, api.ErrSum)
	}
}

// P5.1: the sum is also of what stands ahead of the body.
func TestOpenOfAnotherHead(t *testing.T) {
	s := framed(300, "hello")
	checkRefused(t, strings.Replace(s, "\xac\x02", "\xad\x02", 1), 0, api.ErrSum)
	checkRefused(t, strings.Replace(s, "\xac\x02", "\x2c", 1), 0, api.ErrSum)
	checkRefused(t, strings.Replace(s, "\x05", "\x04", 1), 0, api.ErrSum)
	checkRefused(t, strings.Replace(s, "\x05", "\x06", 1), 0, api.ErrEnd)
	checkRefused(t, strings.Replace(s, "\x05", "\x06", 1)+"!", 0, api.ErrSum)
}

// P5.3
func TestOfACutSegmentNothingIsOpened(t *testing.T) {
	for _, seq := range []uint64{0, 127, 128, 300, math.MaxUint64} {
		for _, body := range bodies() {
			s := framed(seq, body)
			for n := range len(s) {
				checkRefused(t, s[:n], 0, api.ErrEnd)
			}
		}
	}
}

// turned is text, with those bits of pattern turned that are 1, from place bit on; a byte's lowest bit stands first.
func turned(text string, bit int, pattern uint32) string {
	b := []byte(text)
	for i := range 32 {
		if pattern>>i&1 == 1 {
			b[(bit+i)/8] ^= 1 << ((bit + i) % 8)
		}
	}
	return string(b)
}

// patterns are bursts of just so many bits: the first one and the last one are others, those between all of them, none, each second one, or some.
func patterns(length int) []uint32 {
	if length == 1 {
		return []uint32{1}
	}
	ends := uint32(1) | 1<<(length-1)
	within := ^uint32(0) >> (32 - length)
	l := []uint32{ends, within, ends | within&0x55555555, ends | within&0xaaaaaaaa}
	x := uint32(length)
	for range 4 {
		x = x*1664525 + 1013904223
		l = append(l, ends|within&(x>>3|x<<29))
	}
	return l
}

// checkBursts spoils the body of a segment at each step-th bit, by bursts of some lengths.
func checkBursts(t *testing.T, body string, lengths []int, step int) {
	t.Helper()
	whole := framed(300, body)
	head := whole[:len(whole)-4-len(body)]
	sum := whole[len(whole)-4:]
	for _, length := range lengths {
		for bit := 0; bit+length <= 8*len(body); bit += step {
			for _, p := range patterns(length) {
				checkRefused(t, head+turned(body, bit, p)+sum, 0, api.ErrSum)
			}
		}
	}
}

// P5.3
func TestOfASpoiltBodyNothingIsOpened(t *testing.T) {
	var all []int
	for length := 1; length <= 32; length++ {
		all = append(all, length)
	}
	for _, body := range []string{"a", "hello", noise(20), strings.Repeat("\x00", 12), strings.Repeat("\xff", 12), framed(0, "")} {
		checkBursts(t, body, all, 1)
	}
	checkBursts(t, noise(4096), []int{1, 2, 8, 31, 32}, 1237)
	checkBursts(t, noise(4096), []int{32}, 8*4096-32)
}
