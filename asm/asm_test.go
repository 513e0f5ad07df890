package asm_test

import (
	"math"
	"reflect"
	"strings"
	"testing"

	"shunter/api"
	"shunter/asm"
	"shunter/code"
)

// words are those of the ops, with the ops as places.
var words = strings.Fields("nop const move add sub mul less jump if call return spawn yield send recv close select sleep lock unlock emit rand trap")

// fields is how many numbers each op has.
var fields = []int{0, 2, 2, 3, 3, 3, 3, 1, 2, 3, 1, 3, 0, 2, 3, 1, 3, 1, 1, 1, 1, 2, 1}

// parsed holds a text against the program that it is.
func parsed(t *testing.T, text string, want code.Program) {
	t.Helper()
	if p, at, err := asm.Parse(text); !same(p, want) || at != -1 || err != api.OK {
		t.Errorf("%q: %+v, %d, %d, not %+v", short(text), p, at, err, want)
	}
}

// refused holds a text against which of its lines is wrong, and how.
func refused(t *testing.T, text string, line int, want api.Errno) {
	t.Helper()
	if p, at, err := asm.Parse(text); !same(p, code.Program{}) || at != line || err != want {
		t.Errorf("%q: %+v, %d, %d, not %d, %d", short(text), p, at, err, line, want)
	}
}

// short is a text, as far as it is to be read by somebody.
func short(text string) string {
	return text[:min(len(text), 300)]
}

// same: are they one program? A nil list and an empty one are (K1).
func same(a, b code.Program) bool {
	return reflect.DeepEqual(plain(a), plain(b))
}

// plain is a program without nil lists.
func plain(p code.Program) code.Program {
	q := code.Program{Funcs: [][]code.Ins{}, Chans: append([]int{}, p.Chans...), Locks: p.Locks, Cases: append([]code.Case{}, p.Cases...)}
	for _, f := range p.Funcs {
		q.Funcs = append(q.Funcs, append([]code.Ins{}, f...))
	}
	return q
}

// of is a program of one function.
func of(f ...code.Ins) code.Program {
	return code.Program{Funcs: [][]code.Ins{f}}
}

// P11.1: the chapter's example.
func TestExample(t *testing.T) {
	parsed(t, "func\nconst 1 5\nemit 1\n", of(code.Ins{Op: code.Const, A: 1, B: 5}, code.Ins{Op: code.Emit, A: 1}))
	refused(t, "emit 1", 0, api.ErrKind)
}

// P11.1: MaxText.
func TestMaxText(t *testing.T) {
	const most = asm.MaxText
	if most != 20000 {
		t.Error(most)
	}
}

// P11.1: of no lines, or empty ones, comes a program without functions.
func TestEmpty(t *testing.T) {
	for _, text := range []string{"", "\n", "\n\n\n", strings.Repeat("\n", 20000)} {
		refused(t, text, -1, api.ErrBig)
	}
}

// P11.1: 20000 bytes are right, be they what they may; 20001 aren't.
func TestHowLong(t *testing.T) {
	pad := func(text string, to int) string { return strings.Repeat("\n", to-len(text)) + text }
	for _, text := range []string{"func\nnop", "func\nnop\n"} {
		for _, to := range []int{19999, 20000} {
			parsed(t, pad(text, to), of(code.Ins{}))
		}
		for _, to := range []int{20001, 20002, 40000, 1 << 20} {
			refused(t, pad(text, to), 0, api.ErrBig)
		}
	}
	refused(t, pad("nil", 20000), 19997, api.ErrKind)
	refused(t, pad("nil", 20001), 0, api.ErrBig)
	refused(t, "nil"+strings.Repeat("\n", 19997), 0, api.ErrKind)
	refused(t, "\n\nfunc\nnop\nnil"+strings.Repeat("x", 30000), 0, api.ErrBig)
	refused(t, strings.Repeat("x", 20000), 0, api.ErrKind)
	refused(t, strings.Repeat("x", 20001), 0, api.ErrBig)
	refused(t, strings.Repeat(" ", 20000), 0, api.ErrKind)
}

// P11.1: the last line is ended by a byte 10, or by the text's end.
func TestLastLine(t *testing.T) {
	want := of(code.Ins{Op: code.Const, A: 1, B: 5}, code.Ins{Op: code.Emit, A: 1})
	for _, text := range []string{"func\nconst 1 5\nemit 1", "func\nconst 1 5\nemit 1\n", "func\nconst 1 5\nemit 1\n\n"} {
		parsed(t, text, want)
	}
	for _, behind := range []string{"", "\n", "\n\n\n"} {
		refused(t, "func\nnop\nemit"+behind, 2, api.ErrEnd)
	}
}

// P11.1: empty lines say nothing, wherever they stand; but they are lines.
func TestEmptyLines(t *testing.T) {
	lines := []string{"chan 3", "locks 2", "recv 0 1", "else", "func", "const 1 5", "lock 1", "func", "nop"}
	want := code.Program{
		Funcs: [][]code.Ins{{{Op: code.Const, A: 1, B: 5}, {Op: code.Lock, A: 1}}, {{}}},
		Chans: []int{3},
		Locks: 2,
		Cases: []code.Case{{Reg: 1}, {Way: code.WayElse}},
	}
	for at := range lines {
		for many := range 4 {
			ahead, behind := strings.Join(lines[:at], "\n"), strings.Join(lines[at:], "\n")
			empty := strings.Repeat("\n", many)
			if at > 0 {
				ahead += "\n"
			}
			parsed(t, ahead+empty+behind, want)
			refused(t, ahead+empty+"nil\n"+behind, at+many, api.ErrKind)
			refused(t, ahead+empty+behind+"\nnil", len(lines)+many, api.ErrKind)
		}
	}
}

// P11.1: one blank stands ahead of each number, none elsewhere.
func TestBlanks(t *testing.T) {
	for text, want := range map[string]api.Errno{
		" ": api.ErrKind, "  ": api.ErrKind, " chan 1": api.ErrKind, " func": api.ErrKind, "  func": api.ErrKind, " locks 1": api.ErrKind, " recv 0 0": api.ErrKind, " else": api.ErrKind,
		"chan  1": api.ErrForm, "chan   1": api.ErrForm, "chan 1 ": api.ErrForm, "chan 1  ": api.ErrForm, "chan ": api.ErrForm, "chan  ": api.ErrForm, "chan": api.ErrEnd,
		"locks  1": api.ErrForm, "locks 1 ": api.ErrForm, "locks ": api.ErrForm, "locks": api.ErrEnd,
		"recv  0 0": api.ErrForm, "recv 0  0": api.ErrForm, "recv 0 0 ": api.ErrForm, "recv 0 ": api.ErrForm, "recv ": api.ErrForm, "recv 0": api.ErrEnd, "recv": api.ErrEnd,
		"send 0  0": api.ErrForm, "send 0 0 ": api.ErrForm, "send 0": api.ErrEnd,
		"else ": api.ErrForm, "else  ": api.ErrForm, "func ": api.ErrForm, "func  ": api.ErrForm,
	} {
		refused(t, text, 0, want)
		refused(t, "chan 1\n\n"+text+"\nfunc\nnop\n", 2, want)
	}
	for text, want := range map[string]api.Errno{
		" ": api.ErrKind, "   ": api.ErrKind, " nop": api.ErrKind, " func": api.ErrKind, " add 1 2 3": api.ErrKind,
		"nop ": api.ErrForm, "func ": api.ErrForm, "yield  ": api.ErrForm,
		"add  1 2 3": api.ErrForm, "add 1  2 3": api.ErrForm, "add 1 2  3": api.ErrForm, "add 1 2 3 ": api.ErrForm, "add 1 2 ": api.ErrForm, "add 1 ": api.ErrForm, "add ": api.ErrForm,
		"add 1 2": api.ErrEnd, "add 1": api.ErrEnd, "add": api.ErrEnd, "emit  1": api.ErrForm, "emit 1 ": api.ErrForm, "emit ": api.ErrForm, "emit": api.ErrEnd,
	} {
		refused(t, "func\n"+text, 1, want)
		refused(t, "func\nnop\n\n"+text+"\nnop", 3, want)
	}
}

// P11.1: no byte but 32 is a blank, none but 10 ends a line.
func TestOtherBytes(t *testing.T) {
	for _, b := range []string{"\t", "\r", "\v", "\f", "\x00", "\xa0", "\u00a0", "\u0085", "\u2028", "_", "x", "\xff"} {
		refused(t, "func\nemit"+b+"1", 1, api.ErrKind)
		refused(t, "func"+b+"\nnop", 0, api.ErrKind)
		refused(t, b+"func\nnop", 0, api.ErrKind)
		refused(t, "func\nnop"+b, 1, api.ErrKind)
		refused(t, "func\nemit 1"+b, 1, api.ErrForm)
		refused(t, "func\nemit "+b+"1", 1, api.ErrForm)
		refused(t, "chan 1"+b, 0, api.ErrForm)
		refused(t, b, 0, api.ErrKind)
		refused(t, "func\n"+b, 1, api.ErrKind)
		refused(t, "func\nadd 1"+b+"2 3", 1, api.ErrForm)
	}
}

// P11.1: ahead of the first "func".
func TestWordsAhead(t *testing.T) {
	want := of(code.Ins{})
	want.Chans, want.Locks = []int{4, 0, 16}, 3
	want.Cases = []code.Case{{Way: code.WaySend, Chan: 2, Reg: 7}, {Way: code.WayElse}, {Way: code.WayRecv, Chan: 1, Reg: 5}}
	for _, text := range []string{
		"chan 4\nchan 0\nchan 16\nlocks 3\nsend 2 7\nelse\nrecv 1 5\nfunc\nnop",
		"send 2 7\nchan 4\nelse\nlocks 3\nchan 0\nrecv 1 5\nchan 16\nfunc\nnop",
		"send 2 7\nelse\nrecv 1 5\nlocks 3\nchan 4\nchan 0\nchan 16\nfunc\nnop",
	} {
		parsed(t, text, want)
	}
	for _, word := range words {
		if word == "send" || word == "recv" {
			continue
		}
		refused(t, word+" 0 0 0", 0, api.ErrKind)
		refused(t, "chan 1\n"+word, 1, api.ErrKind)
	}
	refused(t, "recv 0 0 0\nfunc\nnop", 0, api.ErrForm)
	refused(t, "send 0 0 0\nfunc\nnop", 0, api.ErrForm)
}

// P11.1: behind it are functions and instructions alone.
func TestWordsBehind(t *testing.T) {
	for _, line := range []string{"chan 1", "chan", "locks 1", "locks", "locks 0", "else", "else 1"} {
		refused(t, "func\n"+line, 1, api.ErrKind)
		refused(t, "chan 1\nfunc\nnop\nfunc\n\n"+line, 5, api.ErrKind)
	}
	p := of(code.Ins{Op: code.Recv, A: 0, B: 3, C: 4}, code.Ins{Op: code.Send, A: 0, B: 7})
	p.Chans = []int{1}
	parsed(t, "chan 1\nfunc\nrecv 0 3 4\nsend 0 7", p)
	refused(t, "chan 1\nfunc\nrecv 0 3", 2, api.ErrEnd)
	refused(t, "func\nfunc 1", 1, api.ErrForm)
	refused(t, "func\nfunc\nnop", -1, api.ErrBig)
	parsed(t, "func\nnop\nfunc\nyield\nnop\nfunc\nnop", code.Program{Funcs: [][]code.Ins{{{}}, {{Op: code.Yield}, {}}, {{}}}})
}

// P11.1: words are told byte by byte.
func TestNoWords(t *testing.T) {
	ahead := []string{"func", "chan", "locks", "recv", "send", "else"}
	no := []string{"default", "lokcs", "case", "program", "0", "-1", "1", "#", "//", ";", "\x00", "nil", "goto", "label:", "Func:", "ä"}
	for _, word := range append(append([]string{}, words...), ahead...) {
		no = append(no, strings.ToUpper(word), strings.ToUpper(word[:1])+word[1:], word[:len(word)-1], word+"s", word+"x", "x"+word, word+":", word+"\r", word[1:], word+word)
	}
	for _, word := range no {
		if word == "lock" || word == "locks" {
			continue
		}
		for _, numbers := range []string{"", " 0", " 0 0", " 0 0 0", " x"} {
			refused(t, word+numbers, 0, api.ErrKind)
			refused(t, "func\nnop\n"+word+numbers, 2, api.ErrKind)
		}
	}
}

// P11.1: the form and the bounds of a number, at each place where one stands.
func TestNumbers(t *testing.T) {
	for word, want := range map[string]int{
		"0": 0, "1": 1, "-1": -1, "9": 9, "10": 10, "-10": -10, "100": 100, "1000000007": 1000000007, "-90": -90,
		"9223372036854775807": math.MaxInt64, "-9223372036854775808": math.MinInt64, "9223372036854775806": math.MaxInt64 - 1, "-9223372036854775807": math.MinInt64 + 1,
		"2147483648": 1 << 31, "-2147483649": -1<<31 - 1, "4294967296": 1 << 32, "1000000000000000000": 1e18, "9007199254740993": 1<<53 + 1,
	} {
		parsed(t, "func\nconst 1 "+word, of(code.Ins{Op: code.Const, A: 1, B: want}))
	}
	nines := strings.Repeat("9", 5000)
	for word, want := range map[string]api.Errno{
		"9223372036854775808": api.ErrBig, "-9223372036854775809": api.ErrBig, "18446744073709551615": api.ErrBig, "18446744073709551616": api.ErrBig, "-18446744073709551616": api.ErrBig,
		"10000000000000000000": api.ErrBig, "99999999999999999999": api.ErrBig, "1" + strings.Repeat("0", 9000): api.ErrBig, nines: api.ErrBig, "-" + nines: api.ErrBig,
		"-0": api.ErrForm, "00": api.ErrForm, "01": api.ErrForm, "-01": api.ErrForm, "-00": api.ErrForm, "+1": api.ErrForm, "+0": api.ErrForm, "+": api.ErrForm, "-": api.ErrForm, "--1": api.ErrForm, "-+1": api.ErrForm, "+-1": api.ErrForm, "1-": api.ErrForm, "": api.ErrForm,
		"09223372036854775808": api.ErrForm, "0" + nines: api.ErrForm, "-0" + nines: api.ErrForm, "+" + nines: api.ErrForm, nines + "x": api.ErrForm, "x" + nines: api.ErrForm, nines + "-": api.ErrForm, "-" + nines + "\x00": api.ErrForm, nines + "x" + nines: api.ErrForm,
		"1x": api.ErrForm, "x": api.ErrForm, "0x1": api.ErrForm, "0b1": api.ErrForm, "0o7": api.ErrForm, "1_000": api.ErrForm, "1e3": api.ErrForm, "1.0": api.ErrForm, "1.": api.ErrForm, ".5": api.ErrForm, "1,000": api.ErrForm, "a": api.ErrForm, "inf": api.ErrForm, "١": api.ErrForm, "1\u0660": api.ErrForm, "\xff": api.ErrForm, "1\x00": api.ErrForm, "1/": api.ErrForm, "1:": api.ErrForm, "/": api.ErrForm, ":": api.ErrForm,
	} {
		refused(t, "func\nconst 1 "+word, 1, want)
		refused(t, "func\nconst "+word+" 1", 1, want)
		refused(t, "func\nconst "+word+" x 1", 1, want)
		refused(t, "func\nadd 1 2 "+word, 1, want)
		refused(t, "func\nadd 1 2 "+word+" 4", 1, want)
		refused(t, "chan 1\nchan "+word, 1, want)
		refused(t, "locks "+word, 0, want)
		refused(t, "send 0 "+word+"\n", 0, want)
		refused(t, "recv "+word+" 0", 0, want)
	}
}

// P11.1: each word with each number of numbers.
func TestHowManyNumbers(t *testing.T) {
	held := func(ahead, word string, at, has int) {
		for many := range 6 {
			text := ahead + word + strings.Repeat(" 0", many)
			switch {
			case many < has:
				refused(t, text, at, api.ErrEnd)
				refused(t, text+"\nnil", at, api.ErrEnd)
			case many > has:
				refused(t, text, at, api.ErrForm)
				refused(t, text+" x", at, api.ErrForm)
			default:
				if _, line, err := asm.Parse(text); line == at && err != api.OK {
					t.Errorf("%q: %d", text, err)
				}
				refused(t, text+" x", at, api.ErrForm)
				refused(t, text+"\nnil", at+1, api.ErrKind)
			}
		}
	}
	for op, word := range words {
		held("func\n", word, 1, fields[op])
		held("func\nnop\n\n", word, 3, fields[op])
	}
	for word, has := range map[string]int{"func": 0, "chan": 1, "locks": 1, "recv": 2, "send": 2, "else": 0} {
		held("", word, 0, has)
		held("chan 1\n", word, 1, has)
	}
	held("func\nnop\n", "func", 2, 0)
}

// P11.1: locks are told once; what else is wrong with the line is told ahead of that.
func TestLocks(t *testing.T) {
	for many, word := range map[int]string{0: "0", 1: "1", 7: "7", 8: "8"} {
		p := of(code.Ins{})
		p.Locks = many
		parsed(t, "locks "+word+"\nfunc\nnop", p)
		parsed(t, "chan 1\nelse\n\nlocks "+word+"\nfunc\nnop", code.Program{Funcs: p.Funcs, Chans: []int{1}, Locks: many, Cases: []code.Case{{Way: code.WayElse}}})
	}
	for _, first := range []string{"0", "1", "8", "9", "-1"} {
		told := "locks " + first + "\n"
		for line, want := range map[string]api.Errno{
			"locks 0": api.ErrTwice, "locks 1": api.ErrTwice, "locks " + first: api.ErrTwice, "locks -1": api.ErrTwice, "locks 100": api.ErrTwice,
			"locks": api.ErrEnd, "locks x": api.ErrForm, "locks 01": api.ErrForm, "locks ": api.ErrForm, "locks 9223372036854775808": api.ErrBig, "locks 1 1": api.ErrForm, "locks 1 ": api.ErrForm, "locks x 1": api.ErrForm,
		} {
			refused(t, told+line, 1, want)
			refused(t, told+"\nchan 1\n"+line+"\nnil", 3, want)
			refused(t, told+line+"\nlocks 1", 1, want)
		}
		refused(t, told+"nil\nlocks 1", 1, api.ErrKind)
		refused(t, told+"func\nlocks 1", 2, api.ErrKind)
	}
	refused(t, "locks\nlocks 1", 0, api.ErrEnd)
}

// P11.1: of several faults the first one, line by line, from left to right.
func TestFirstFault(t *testing.T) {
	for text, want := range map[string]struct {
		line int
		err  api.Errno
	}{
		"nil x\nchan\nfunc\nemit 01":             {0, api.ErrKind},
		"chan\nnil x\nfunc\nemit 01":             {0, api.ErrEnd},
		"chan 01\nchan\nnil":                     {0, api.ErrForm},
		"chan 9223372036854775808\nchan 01":      {0, api.ErrBig},
		"chan 1 1\nnil":                          {0, api.ErrForm},
		"locks 1\nlocks 2\nnil":                  {1, api.ErrTwice},
		"locks 1\nnil\nlocks 2":                  {1, api.ErrKind},
		"func\nadd 9223372036854775808 x":        {1, api.ErrBig},
		"func\nadd x 9223372036854775808":        {1, api.ErrForm},
		"func\nadd 1 9223372036854775808 01 1":   {1, api.ErrBig},
		"func\nadd 1 01 9223372036854775808 1":   {1, api.ErrForm},
		"func\nadd 9223372036854775808":          {1, api.ErrBig},
		"func\nadd x":                            {1, api.ErrForm},
		"func\nadd 1 2\nadd 01":                  {1, api.ErrEnd},
		"func\nadd 1 2 9223372036854775808 4":    {1, api.ErrBig},
		"func\nADD x":                            {1, api.ErrKind},
		"func\nemit 99\nnil":                     {2, api.ErrKind},
		"chan 99\nlocks 99\nrecv 9 9\nfunc 1":    {3, api.ErrForm},
		"func\nfunc\nfunc\nemit":                 {3, api.ErrEnd},
		"chan 99\nrecv 9 9\nfunc\nemit 99\nemit": {4, api.ErrEnd},
	} {
		refused(t, text, want.line, want.err)
	}
}

// P11.1: right line by line, of a program that may not be: layer 10's error, at no line.
func TestPrograms(t *testing.T) {
	one := "func\nnop\n"
	for text, want := range map[string]api.Errno{
		"func": api.ErrBig, "func\n": api.ErrBig, "func\nfunc\nnop": api.ErrBig, "func\nnop\nfunc": api.ErrBig, "chan 1": api.ErrBig, "else": api.ErrBig, "locks 1": api.ErrBig,
		strings.Repeat(one, 17): api.ErrBig, "func\n" + strings.Repeat("nop\n", 65): api.ErrBig, strings.Repeat("chan 1\n", 9) + one: api.ErrBig, strings.Repeat("else\n", 33) + one: api.ErrBig,
		"locks 9\n" + one: api.ErrBig, "locks -1\n" + one: api.ErrBig, "locks 9223372036854775807\n" + one: api.ErrBig, "locks -9223372036854775808\n" + one: api.ErrBig,
		"chan 17\n" + one: api.ErrArg, "chan -1\n" + one: api.ErrArg, "chan 9223372036854775807\n" + one: api.ErrArg,
		"recv 0 0\n" + one: api.ErrArg, "chan 1\nrecv 1 0\n" + one: api.ErrArg, "chan 1\nsend 0 8\n" + one: api.ErrArg, "chan 1\nsend 0 -1\n" + one: api.ErrArg, "chan 1\nrecv -1 0\n" + one: api.ErrArg,
		"func\nconst 8 0": api.ErrArg, "func\nmove 0 -1": api.ErrArg, "func\nadd 0 0 8": api.ErrArg, "func\njump 1": api.ErrArg, "func\njump -1": api.ErrArg, "func\nif 0 1": api.ErrArg, "func\ncall 1 0 0": api.ErrArg, "func\nspawn -1 0 0": api.ErrArg,
		"func\nsend 0 0": api.ErrArg, "func\nrecv 0 0 0": api.ErrArg, "func\nclose 0": api.ErrArg, "func\nselect 0 1 0": api.ErrArg, "else\nfunc\nselect 0 0 0": api.ErrArg, "else\nfunc\nselect 0 2 0": api.ErrArg, "func\nlock 0": api.ErrArg, "locks 1\nfunc\nunlock 1": api.ErrArg,
		"func\nrand 0 0": api.ErrArg, "func\nrand 0 1099511627776": api.ErrArg, "func\ntrap -1": api.ErrArg, "func\ntrap 1048576": api.ErrArg, "func\nreturn 8": api.ErrArg,
		"func\nemit 8\nfunc": api.ErrArg, "func\nfunc\nemit 8": api.ErrBig, "chan 17\nlocks 9\n" + one: api.ErrBig,
	} {
		refused(t, text, -1, want)
	}
	// What may just be.
	for _, text := range []string{
		strings.Repeat(one, 16), "func\n" + strings.Repeat("nop\n", 64), strings.Repeat("chan 16\n", 8) + one, strings.Repeat("else\n", 32) + one, "locks 8\n" + one,
		"func\nconst 7 -9223372036854775808\n", "func\nnop\njump 1\n", "func\nrand 7 1099511627775\n", "func\ntrap 1048575\n", "chan 0\nsend 0 7\nrecv 0 7\nelse\nfunc\nselect 0 3 7\n",
	} {
		if p, at, err := asm.Parse(text); at != -1 || err != api.OK || asm.Text(p) != text {
			t.Errorf("%q: %d, %d", short(text), at, err)
		}
	}
}

// P11.1, K3: two programs of one text share nothing, and no two functions do.
func TestOwnMemory(t *testing.T) {
	text := "chan 3\nlocks 1\nrecv 0 1\nelse\nfunc\nnop\nnop\nnop\nfunc\nnop\nyield\nnop\nfunc\nnop\n"
	a, _, _ := asm.Parse(text)
	b, _, _ := asm.Parse(text)
	a.Chans[0], a.Locks, a.Cases[0].Reg = 9, 7, 6
	for i := range a.Funcs {
		for at := range a.Funcs[i] {
			a.Funcs[i][at].Op = code.Trap
		}
		// What runs over shows nowhere.
		_ = append(a.Funcs[i], code.Ins{Op: code.Emit})
	}
	a.Funcs[1] = nil
	if asm.Text(b) != text {
		t.Errorf("%q", asm.Text(b))
	}
	for i := range b.Funcs {
		f := b.Funcs[i]
		for range 70 {
			f = append(f, code.Ins{Op: code.Trap, A: 5})
		}
	}
	if asm.Text(b) != text {
		t.Errorf("%q", asm.Text(b))
	}
}
