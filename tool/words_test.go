package tool_test

import (
	"fmt"
	"math"
	"strings"
	"testing"

	"shunter/api"
	"shunter/sched"
	"shunter/tool"
)

// forms are words that no number is written as.
var forms = []string{
	"", "00", "01", "007", "0x1", "1x", "x", "x1", "a", "f", "-1", "-0", "+1", "+0", "+", "-", "1-", "1.0", "1.", ".1", "1e3", "1_000", "1,000", "0b1", "0o7", "٣", "１", "½", "\x00", "1\x00", "\t1", "1\t", "1\r", "\xff", "\xc2\xa01", "1\xc2\xa0",
	"'1'", "\"1\"", "1/", "1:", "00000000000000000000000000000001", "-99999999999999999999999999", "99999999999999999999999999x", "099999999999999999999999999", "Inf", "NaN", "true",
}

// great are numbers that 64 bits don't hold.
var great = []string{"18446744073709551616", "18446744073709551617", "18446744073709551620", "20000000000000000000", "99999999999999999999", "100000000000000000000", "1" + strings.Repeat("0", 300)}

// fit are numbers that 64 bits just hold.
var fit = map[string]uint64{
	"18446744073709551615": math.MaxUint64, "18446744073709551614": math.MaxUint64 - 1, "18446744073709551609": math.MaxUint64 - 6, "9223372036854775808": 1 << 63, "9223372036854775807": 1<<63 - 1, "10000000000000000000": 1e19,
	"4294967296": 1 << 32, "4294967295": 1<<32 - 1, "1048577": 1<<20 + 1, "1048576": 1 << 20, "10": 10, "100": 100, "9": 9, "1": 1, "0": 0, "1234567890": 1234567890,
}

// P25.1: draw has any numbers, none among them, as often as one likes: they stand one behind the other.
func TestDraw(t *testing.T) {
	for text, want := range map[string][]uint64{
		"": nil, "draw": nil, "draw\ndraw\n\ndraw": nil, "draw 7": {7}, "draw 7 7": {7, 7}, "draw 3 2 1": {3, 2, 1},
		"draw 1\ndraw 2": {1, 2}, "draw 2\ndraw 1\ndraw\ndraw 4 3 0": {2, 1, 4, 3, 0}, "draw 1 2 3\nsteps 0\n\ndraw 4\n\ndraw": {1, 2, 3, 4}, "draw\ndraw 0": {0},
		"draw 0 1 2 3 4 5 6 7 8 9 10 11 99 100 1000 1001": {0, 1, 2, 3, 4, 5, 6, 7, 8, 9, 10, 11, 99, 100, 1000, 1001},
	} {
		parsed(t, text+end, numbered(want...))
	}
	for word, want := range fit {
		parsed(t, "draw "+word+end, numbered(want))
		parsed(t, "draw 1 "+word+" 2\ndraw "+word+end, numbered(1, want, 2, want))
	}
}

// P25.1: of draw what isn't a number, or doesn't fit, number by number.
func TestDrawRefused(t *testing.T) {
	for _, word := range forms {
		for _, line := range []string{"draw " + word, "draw 1 2 " + word, "draw " + word + " 1", "draw 1 " + word + " 2", "draw " + word + " 18446744073709551616", "draw 1 " + word + " x"} {
			refused(t, line+end, 0, api.ErrForm)
			refused(t, "draw 1 2\n\n"+line, 2, api.ErrForm)
		}
	}
	for _, word := range great {
		for _, line := range []string{"draw " + word, "draw 1 2 " + word, "draw " + word + " 1", "draw " + word + " x", "draw 1 " + word + " ", "draw " + word + " 01 99999999999999999999"} {
			refused(t, line+end, 0, api.ErrBig)
			refused(t, "draw 1 2\n\n"+line, 2, api.ErrBig)
		}
	}
	for _, line := range []string{"draw ", "draw  ", "draw  1", "draw 1 ", "draw 1  2", "draw 1 2 ", "draw\t1 1", "draw 1,2", "draw 1\t2"} {
		want := api.ErrForm
		if line[4] == '\t' {
			want = api.ErrKind
		}
		refused(t, line+end, 0, want)
	}
}

// several is a line that draws so many noughts.
func several(many int) string {
	return "draw" + strings.Repeat(" 0", many) + "\n"
}

// P25.1: 4000 numbers altogether, in one line and over several; one more is too many at its line, behind what else is wrong in that.
func TestHowManyNumbers(t *testing.T) {
	for _, l := range [][]int{{4000}, {3999}, {4000, 0}, {0, 4000}, {0, 0, 4000, 0}, {1, 3999}, {3999, 1}, {2000, 2000}, {1000, 1000, 1000, 1000}, {1, 1, 1, 3997}, {3999, 0, 1, 0}} {
		text, all := "", 0
		for _, many := range l {
			text += several(many)
			all += many
		}
		parsed(t, text+end, numbered(make([]uint64, all)...))
	}
	for _, x := range []struct {
		l    []int
		line int
	}{{[]int{4001}, 0}, {[]int{5000}, 0}, {[]int{4000, 1}, 1}, {[]int{4000, 0, 1}, 2}, {[]int{1, 4000}, 1}, {[]int{4000, 4000}, 1}, {[]int{3999, 1, 1}, 2}, {[]int{3999, 2}, 1}, {[]int{1000, 1000, 1000, 1000, 1}, 4}, {[]int{2000, 2001}, 1}, {[]int{0, 4001}, 1}} {
		text := ""
		for _, many := range x.l {
			text += several(many)
		}
		refused(t, text+end, x.line, api.ErrBig)
		refused(t, text+"what", x.line, api.ErrBig)
		// Number by number comes first.
		refused(t, text[:len(text)-1]+" x"+end, x.line, api.ErrForm)
		refused(t, text[:len(text)-1]+" "+end, x.line, api.ErrForm)
	}
	// As few lines as many.
	refused(t, strings.Repeat("draw 0\n", 4001)+end, 4000, api.ErrBig)
	parsed(t, strings.Repeat("draw 0\n", 4000)+end, numbered(make([]uint64, 4000)...))
	parsed(t, strings.Repeat("draw\n", 5000)+several(4000)+end, numbered(make([]uint64, 4000)...))
}

// P25.1: steps and a number up to 2^20.
func TestSteps(t *testing.T) {
	for word, want := range map[string]int{"0": 0, "1": 1, "9": 9, "10": 10, "4000": 4000, "1048575": 1048575, "1048576": 1048576} {
		parsed(t, "steps "+word+end, withSteps(want))
	}
	parsed(t, strings.TrimPrefix(end, "\n"), withSteps(0))
	for _, word := range []string{"1048577", "1048578", "2000000", "4294967296", "4294967297", "9223372036854775807", "9223372036854775808", "18446744073709551615"} {
		refused(t, "steps "+word+end, 0, api.ErrBig)
	}
	for _, word := range great {
		refused(t, "steps "+word+end, 0, api.ErrBig)
	}
	for _, word := range forms {
		refused(t, "steps "+word+end, 0, api.ErrForm)
	}
	refused(t, "steps"+end, 0, api.ErrEnd)
	refused(t, "\n\nsteps", 2, api.ErrEnd)
}

// P25.1: steps with more than one number: one too many, but what stands ahead comes first; that it is above the limit comes last.
func TestStepsWithMore(t *testing.T) {
	for line, want := range map[string]api.Errno{
		"steps 1 2": api.ErrForm, "steps 1 x": api.ErrForm, "steps 1 ": api.ErrForm, "steps  1": api.ErrForm, "steps 1  ": api.ErrForm, "steps 1 2 3": api.ErrForm, "steps 1 18446744073709551616": api.ErrForm,
		"steps x 2": api.ErrForm, "steps 18446744073709551616 2": api.ErrBig, "steps 18446744073709551616 x": api.ErrBig, "steps 1048577 1": api.ErrForm, "steps 1048577 ": api.ErrForm, "steps 0 0": api.ErrForm,
	} {
		refused(t, line+end, 0, want)
	}
}

// P25.1: config's numbers are P, M, Ring, Slice, up to the limits of layer 18.
func TestConfig(t *testing.T) {
	for text, want := range map[string]sched.Config{
		"1 1 2 1": {P: 1, M: 1, Ring: 2, Slice: 1}, "1 2 3 4": {P: 1, M: 2, Ring: 3, Slice: 4}, "4 3 2 1": {P: 4, M: 3, Ring: 2, Slice: 1}, "64 64 1024 1024": {P: 64, M: 64, Ring: 1024, Slice: 1024},
		"64 1 2 1": {P: 64, M: 1, Ring: 2, Slice: 1}, "1 64 2 1": {P: 1, M: 64, Ring: 2, Slice: 1}, "1 1 1024 1": {P: 1, M: 1, Ring: 1024, Slice: 1}, "1 1 2 1024": {P: 1, M: 1, Ring: 2, Slice: 1024},
	} {
		parsed(t, "config "+text+"\n"+nop, config(want))
	}
}

// P25.1: config's numbers that layer 18 doesn't have, or that are above 2^20, whichever of the four it is.
func TestConfigOutOfRange(t *testing.T) {
	above := []string{"1025", "65536", "1048575", "1048576", "1048577", "2147483648", "4294967295", "4294967296", "4294967297", "4294967298", "9223372036854775807", "9223372036854775808", "9223372036854775809", "18446744073709551614", "18446744073709551615"}
	for place, other := range [][]string{{"0", "65"}, {"0", "65"}, {"0", "1"}, {"0"}} {
		for _, word := range append(other, above...) {
			words := []string{"1", "1", "2", "1"}
			words[place] = word
			refused(t, "config "+strings.Join(words, " ")+"\n"+nop, 0, api.ErrArg)
			refused(t, "\nconfig "+strings.Join(words, " "), 1, api.ErrArg)
		}
	}
	refused(t, "config 0 0 0 0", 0, api.ErrArg)
	refused(t, "config 2000000 65 1 1025", 0, api.ErrArg)
}

// P25.1: config's numbers, one by one: those that are none, that don't fit, one too many, at last too few; only then what they say.
func TestConfigNumberByNumber(t *testing.T) {
	for many := range 9 {
		good := []string{"1", "1", "2", "1", "1", "1", "1", "1"}[:many]
		line := strings.Join(append([]string{"config"}, good...), " ")
		switch {
		case many < 4:
			refused(t, line+"\n"+nop, 0, api.ErrEnd)
		case many > 4:
			refused(t, line+"\n"+nop, 0, api.ErrForm)
		}
		for place := range many {
			// At the fifth place, and behind, it is one too many, whatever it is.
			for _, word := range forms {
				refused(t, with(line, place, word)+"\n"+nop, 0, api.ErrForm)
			}
			for _, word := range great {
				want := api.ErrForm
				if place < 4 {
					want = api.ErrBig
				}
				refused(t, with(line, place, word)+"\n"+nop, 0, want)
			}
			for _, word := range []string{"1048577", "0", "1025"} {
				want := api.ErrArg
				if many < 4 {
					want = api.ErrEnd
				}
				if many > 4 {
					want = api.ErrForm
				}
				refused(t, with(line, place, word)+"\n"+nop, 0, want)
			}
		}
	}
	for line, want := range map[string]api.Errno{
		"config x 18446744073709551616": api.ErrForm, "config 18446744073709551616 x": api.ErrBig, "config 1 18446744073709551616 x 1 1": api.ErrBig, "config 1 x 18446744073709551616 1 1": api.ErrForm,
		"config": api.ErrEnd, "config ": api.ErrForm, "config  ": api.ErrForm, "config 1 1 2 1 ": api.ErrForm, "config  1 1 2 1": api.ErrForm, "config 1  1 2 1": api.ErrForm, "config 1 1 2 ": api.ErrForm, "config 1 1 2  1": api.ErrForm,
	} {
		refused(t, line+"\n"+nop, 0, want)
	}
}

// with is a line, another word as one of its numbers.
func with(line string, place int, word string) string {
	words := strings.Split(line, " ")
	words[place+1] = word
	return strings.Join(words, " ")
}

// P25.1: config, steps and log are told once, whatever they tell, also steps of 0 and a log of no bytes; that comes ahead of what else is wrong in the line.
func TestTwice(t *testing.T) {
	for _, x := range [][]string{
		{"config 1 1 2 5", "config 1 1 2 5", "config 64 64 3 3", "config 0 1 2 5", "config", "config ", "config x", "config 1 1 2 5 6", "config 99999999999999999999"},
		{"steps 5", "steps 5", "steps 6", "steps 0", "steps", "steps ", "steps x", "steps 1 2", "steps 1048577", "steps 99999999999999999999"},
		{"steps 0", "steps 0", "steps 1", "steps", "steps x"},
		{"log 53", "log 53", "log 00", "log ", "log", "log 5", "log x", "log 53 53"},
		{"log ", "log ", "log 53", "log", "log x"},
	} {
		for _, again := range x[1:] {
			for between, lines := range map[string]int{"": 0, "\n\n": 2, "draw 1\ndraw 2\n": 2} {
				refused(t, x[0]+"\n"+between+again+"\n"+nop, lines+1, api.ErrTwice)
				refused(t, "\n"+x[0]+"\n"+between+again, lines+2, api.ErrTwice)
			}
		}
	}
	// One doesn't count for the other.
	refused(t, "config 1 1 2 5\nsteps 1\nlog 53\nlog 53", 3, api.ErrTwice)
	refused(t, "log 53\nsteps 1\nconfig 1 1 2 5\nsteps 1", 3, api.ErrTwice)
	refused(t, "steps 1\nlog \nconfig 1 1 2 5\nconfig 1 1 2 5", 3, api.ErrTwice)
}

// P25.1: a log is two digits of sixteen a byte; none of them is a log, too.
func TestLog(t *testing.T) {
	for word, want := range map[string]string{"": "", "00": "\x00", "53": "S", "5367": "Sg", "ff": "\xff", "0a": "\n", "a0": "\xa0", "20": " ", "0123456789abcdef": "\x01\x23\x45\x67\x89\xab\xcd\xef", "fedcba9876543210": "\xfe\xdc\xba\x98\x76\x54\x32\x10", "536700010100": "Sg\x00\x01\x01\x00"} {
		parsed(t, "log "+word+end, logged(want))
		parsed(t, "config 1 1 2 5\nlog "+word+"\n"+nop, logged(want))
	}
	for b := range 256 {
		parsed(t, fmt.Sprintf("log %02x", b)+end, logged(string([]byte{byte(b)})))
		parsed(t, fmt.Sprintf("log 00%02x%02x", b, 255-b)+end, logged(string([]byte{0, byte(b), byte(255 - b)})))
	}
}

// P25.1: what is no log's bytes.
func TestLogRefused(t *testing.T) {
	for _, line := range []string{
		"log", "log 5", "log 536", "log 53675", "log A0", "log 0A", "log aF", "log FF", "log 0x53", "log 5g", "log g5", "log ag", "log 5:", "log /5", "log 5`", "log 5@", "log -1", "log +1", "log é", "log \xff\xff", "log 5\x00", "log \x00\x00", "log 53\t", "log 53\r", "log 5 3",
		"log 53 67", "log  53", "log 53 ", "log 53  ", "log  ", "log   ", "log 53 67 00", "log 5367 x", "log  5367", "log \"53\"", "log ٣٣", "log x", "log xy",
	} {
		refused(t, line+end, 0, api.ErrForm)
		refused(t, "steps 1\n\n"+line, 2, api.ErrForm)
	}
	good := "0123456789abcdef"
	for b := range 256 {
		word := string([]byte{byte(b)})
		if strings.Contains(good, word) || b == '\n' {
			continue
		}
		for _, log := range []string{word + "0", "0" + word, "00" + word + "0", "000" + word, word + word} {
			refused(t, "log "+log+end, 0, api.ErrForm)
		}
	}
}

// P1: no line of any bytes makes Parse or Run panic.
func TestAnyLine(t *testing.T) {
	for a := range 256 {
		for _, text := range []string{"%s", "config%s", "config %s", "steps%s", "draw %s", "log %s", "program%s", "program\n%s", "config 1 1 2 5\nprogram\nfunc\nnop%s"} {
			text = strings.Replace(text, "%s", string([]byte{byte(a)}), 1)
			j, at, err := tool.Parse(text)
			if err == api.OK {
				continue
			}
			want := fmt.Sprintf("error %d line %d\n", err, at)
			if s := tool.Run(text); s != want || !same(j, tool.Job{}) || at < -1 || at > strings.Count(text, "\n") {
				t.Errorf("%q: %q, not %q; %+v", text, s, want, j)
			}
		}
	}
}
