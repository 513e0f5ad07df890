package tool

import (
	"strconv"
	"strings"

	"shunter/source"
	"shunter/taper"
)

// digits are those of sixteen.
const digits = "0123456789abcdef"

// sumDigits is how many of them a sum has.
const sumDigits = 8

// statuses are how a run ended, in words, with taper's numbers as places.
var statuses = [...]string{
	taper.Halted:    "halted",
	taper.Trapped:   "trapped",
	taper.Deadlock:  "deadlock",
	taper.Exhausted: "exhausted",
	taper.Limit:     "limit",
	taper.Broken:    "broken",
	taper.Malformed: "malformed",
	taper.Strayed:   "strayed",
}

// lines: a result, but for its log.
func lines(x taper.Result) string {
	told := line(statuses[x.Status]) + line(wordSteps, strconv.Itoa(x.Steps))
	if x.Status == taper.Trapped {
		told += line("trap", strconv.Itoa(x.Trap))
	}
	if x.Where != (source.Unlike{}) {
		told += where(x.Where)
	}
	if len(x.Out) > 0 {
		told += out(x.Out)
	}
	if len(x.Sums) > 0 {
		told += line("sum", sum(x.Sums[len(x.Sums)-1]))
	}
	return told
}

// where: the line of where it strayed.
func where(w source.Unlike) string {
	return line("at", strconv.Itoa(w.At), "kind", strconv.Itoa(w.Kind), "below", strconv.Itoa(w.N), "stands", strconv.Itoa(w.Got.Kind), strconv.FormatUint(w.Got.N, 10))
}

// out: the line of what was told.
func out(l []int64) string {
	words := []string{"out"}
	for _, n := range l {
		words = append(words, strconv.FormatInt(n, 10))
	}
	return line(words...)
}

// sum: by digits of sixteen, with noughts ahead.
func sum(n uint32) string {
	text := strconv.FormatUint(uint64(n), 16)
	return strings.Repeat("0", sumDigits-len(text)) + text
}

// line: words, and its end.
func line(words ...string) string {
	return strings.Join(words, blank) + lineEnd
}

// hex: bytes as two digits each.
func hex(s string) string {
	b := make([]byte, 0, 2*len(s))
	for i := range len(s) {
		b = append(b, digits[s[i]>>4], digits[s[i]&15])
	}
	return string(b)
}

// unhex: the bytes of two digits each, if they are that.
func unhex(word string) (string, bool) {
	if len(word)%2 != 0 {
		return "", false
	}
	b := make([]byte, len(word)/2)
	for i := range len(word) {
		d := strings.IndexByte(digits, word[i])
		if d < 0 {
			return "", false
		}
		b[i/2] = b[i/2]<<4 | byte(d)
	}
	return string(b), true
}
