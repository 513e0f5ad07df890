package segment_test

import (
	"hash/crc32"
	"testing"

	"shunter/api"
	"shunter/segment"
)

// refused is what a reader panics with where a segment can't go on.
type refused struct{ err api.Errno }

// reader goes through a text byte by byte.
type reader struct {
	s  string
	at int
}

func (r *reader) byte() byte {
	if r.at >= len(r.s) {
		panic(refused{api.ErrEnd})
	}
	r.at++
	return r.s[r.at-1]
}

func (r *reader) must(b byte) {
	if r.byte() != b {
		panic(refused{api.ErrForm})
	}
}

// number: a number's bytes are those of no other number, and what is too great for 64 bits is none.
func (r *reader) number() uint64 {
	from := r.at
	n := uint64(0)
	for i := range 10 {
		b := r.byte()
		n += uint64(b&127) << (7 * i)
		if b < 128 {
			if number(n) != r.s[from:r.at] {
				break
			}
			return n
		}
	}
	panic(refused{api.ErrForm})
}

// opened is what Open answers.
type opened struct {
	seq  uint64
	body string
	end  int
	err  api.Errno
}

// openByWords is Open by the chapter's words, byte by byte.
func openByWords(s string, at int) (o opened) {
	if at < 0 || at > len(s) {
		return opened{err: api.ErrArg}
	}
	defer func() {
		if r, ok := recover().(refused); ok {
			o = opened{err: r.err}
		}
	}()
	r := &reader{s, at}
	r.must('S')
	r.must('g')
	seq := r.number()
	length := r.number()
	if length > 4096 {
		panic(refused{api.ErrBig})
	}
	from := r.at
	for range length {
		r.byte()
	}
	to := r.at
	sum := uint32(r.byte()) | uint32(r.byte())<<8 | uint32(r.byte())<<16 | uint32(r.byte())<<24
	if sum != crc32.ChecksumIEEE([]byte(s[at:to])) {
		panic(refused{api.ErrSum})
	}
	return opened{seq, s[from:to], r.at, api.OK}
}

// checkByWords opens a text at each place, and around, and answers how many segments stood there.
func checkByWords(t *testing.T, s string) int {
	t.Helper()
	found := 0
	for at := -2; at <= len(s)+2; at++ {
		seq, body, end, err := segment.Open(s, at)
		got, want := (opened{seq, body, end, err}), openByWords(s, at)
		if got != want {
			t.Fatalf("Open(%x, %d) = %v, not %v", s, at, got, want)
		}
		if err == api.OK {
			found++
		}
	}
	return found
}

// texts are rows of segments.
func texts() []string {
	return []string{
		"",
		framed(0, ""),
		framed(300, "hello"),
		framed(0, "") + framed(1, "S") + framed(2, "Sg"),
		framed(1<<63, framed(7, "within")),
		"Sg" + framed(128, "\x80\x00"),
		framed(0, noise(130)),
	}
}

// P5.1, P5.3
func TestOpenAtEachByteOfWhatIsCutAnywhere(t *testing.T) {
	for _, s := range texts() {
		for n := range len(s) + 1 {
			checkByWords(t, s[:n])
		}
	}
	if n := checkByWords(t, texts()[4]); n != 2 {
		t.Errorf("a segment within a segment: %d are opened", n)
	}
}

// P5.1, P5.3
func TestOpenOfWhatHasAnotherByteAnywhere(t *testing.T) {
	for _, s := range texts() {
		for i := range len(s) {
			for _, b := range []byte("\x00\x01\x7f\x80\x81\xffSg") {
				c := []byte(s)
				c[i] = b
				checkByWords(t, string(c))
			}
		}
	}
}

// P5.1
func TestOpenOfAllShortHeads(t *testing.T) {
	letters := "Sg\x00\x01\x7f\x80\xff"
	for i := range 7 * 7 * 7 * 7 {
		s := ""
		for n := i; len(s) < 4; n /= 7 {
			s += letters[n%7 : n%7+1]
		}
		checkByWords(t, s)
		checkByWords(t, "Sg"+s)
		checkByWords(t, summed("Sg"+s))
		checkByWords(t, summed("Sg"+s)+"\x00")
	}
}

// P5.1
func TestOpenOfAnyBytes(t *testing.T) {
	x := uint32(1)
	for i := range 20000 {
		b := []byte("Sg")
		for range i % 40 {
			x = x*1664525 + 1013904223
			b = append(b, byte(x>>16)&byte(x>>24))
		}
		s := string(b)
		checkByWords(t, s)
		checkByWords(t, summed(s))
	}
}
