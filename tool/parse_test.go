package tool_test

import (
	"reflect"
	"slices"
	"strings"
	"testing"

	"shunter/api"
	"shunter/code"
	"shunter/sched"
	"shunter/tool"
)

// nop is the shortest program that there is.
const nop = "program\nfunc\nnop"

// end is what makes a job of lines that stand ahead.
const end = "\nconfig 1 1 2 5\n" + nop

var (
	nopProgram = code.Program{Funcs: [][]code.Ins{{{}}}}
	least      = sched.Config{P: 1, M: 1, Ring: 2, Slice: 5}
)

// job is one of a nop, with this config, and what else is told.
func job(change func(j *tool.Job)) tool.Job {
	j := tool.Job{Program: nopProgram, Config: least}
	change(&j)
	return j
}

// One with numbers, with so many steps, with a log, with another config.
func numbered(l ...uint64) tool.Job  { return job(func(j *tool.Job) { j.Numbers = l }) }
func withSteps(n int) tool.Job       { return job(func(j *tool.Job) { j.Steps = n }) }
func logged(log string) tool.Job     { return job(func(j *tool.Job) { j.Log, j.Logged = log, true }) }
func config(c sched.Config) tool.Job { return job(func(j *tool.Job) { j.Config = c }) }

// parsed holds a text against the job that it is.
func parsed(t *testing.T, text string, want tool.Job) {
	t.Helper()
	if j, at, err := tool.Parse(text); !same(j, want) || at != -1 || err != api.OK {
		t.Errorf("%q: %+v, %d, %d, not %+v", short(text), j, at, err, want)
	}
}

// refused holds a text against which of its lines is wrong, and how.
func refused(t *testing.T, text string, line int, want api.Errno) {
	t.Helper()
	if j, at, err := tool.Parse(text); !same(j, tool.Job{}) || at != line || err != want {
		t.Errorf("%q: %+v, %d, %d, not %d, %d", short(text), j, at, err, line, want)
	}
}

// short is a text, as far as it is to be read by somebody.
func short(text string) string {
	return text[:min(len(text), 300)]
}

// same: are they one job? A nil list and an empty one are (K1).
func same(a, b tool.Job) bool {
	return reflect.DeepEqual(plain(a), plain(b))
}

// plain is a job without nil lists.
func plain(j tool.Job) tool.Job {
	p := code.Program{Funcs: [][]code.Ins{}, Chans: append([]int{}, j.Program.Chans...), Locks: j.Program.Locks, Cases: append([]code.Case{}, j.Program.Cases...)}
	for _, f := range j.Program.Funcs {
		p.Funcs = append(p.Funcs, append([]code.Ins{}, f...))
	}
	j.Program, j.Numbers = p, append([]uint64{}, j.Numbers...)
	return j
}

// P25.1: the limits.
func TestLimits(t *testing.T) {
	const text, numbers = tool.MaxText, tool.MaxNumbers
	if text != 40000 || numbers != 4000 {
		t.Error(text, numbers)
	}
}

// P25.1: the chapter's example.
func TestExample(t *testing.T) {
	for _, text := range []string{"config 1 1 2 1\nsteps 9\ndraw 0 0 0\nprogram\nfunc\nreturn 0", "config 1 1 2 1\nsteps 9\ndraw 0 0 0\nprogram\nfunc\nreturn 0\n"} {
		parsed(t, text, tool.Job{
			Program: code.Program{Funcs: [][]code.Ins{{{Op: code.Return}}}},
			Config:  sched.Config{P: 1, M: 1, Ring: 2, Slice: 1},
			Steps:   9,
			Numbers: []uint64{0, 0, 0},
		})
		if s := tool.Run(text); !strings.HasPrefix(s, "halted\nsteps 3\n") {
			t.Errorf("Run: %q", s)
		}
	}
}

// P25.1: an empty text, and one of empty lines, have no line "program".
func TestEmpty(t *testing.T) {
	for _, text := range []string{"", "\n", "\n\n\n", strings.Repeat("\n", 40000)} {
		refused(t, text, -1, api.ErrEnd)
	}
}

// P25.1: 40000 bytes are right, be they what they may; 40001 aren't, at line 0, whatever else is wrong.
func TestHowLong(t *testing.T) {
	pad := func(text string, to int) string { return strings.Repeat("\n", to-len(text)) + text }
	for _, text := range []string{"config 1 1 2 5\n" + nop, "config 1 1 2 5\n" + nop + "\n"} {
		for _, to := range []int{39999, 40000} {
			parsed(t, pad(text, to), config(least))
		}
		for _, to := range []int{40001, 40002, 80000, 1 << 20} {
			refused(t, pad(text, to), 0, api.ErrBig)
		}
	}
	refused(t, pad("nil", 40000), 39997, api.ErrKind)
	refused(t, pad("nil", 40001), 0, api.ErrBig)
	refused(t, "\n\nnil"+strings.Repeat("\n", 39995), 2, api.ErrKind)
	refused(t, "\n\nnil"+strings.Repeat("\n", 39996), 0, api.ErrBig)
	refused(t, strings.Repeat("x", 40000), 0, api.ErrKind)
	refused(t, strings.Repeat("x", 40001), 0, api.ErrBig)
	refused(t, strings.Repeat(" ", 40000), 0, api.ErrKind)
	refused(t, strings.Repeat("\n", 40001), 0, api.ErrBig)
	refused(t, "config"+strings.Repeat(" ", 39994), 0, api.ErrForm)
	log := strings.Repeat("0", 40000-len("log ")-len(end)-1)
	refused(t, "log "+log+end, 0, api.ErrForm)
	parsed(t, "log 0"+log+end, logged(strings.Repeat("\x00", (len(log)+1)/2)))
}

// P25.1: a text is as long as it has bytes, however few signs these make.
func TestBytesNotSigns(t *testing.T) {
	refused(t, strings.Repeat("é", 20000), 0, api.ErrKind)
	refused(t, strings.Repeat("é", 20000)+"\n", 0, api.ErrBig)
	refused(t, strings.Repeat("\n", 39998)+"é", 39998, api.ErrKind)
}

// P25.1: the last line is ended by a byte 10, or by the text's end.
func TestLastLine(t *testing.T) {
	for _, behind := range []string{"", "\n", "\n\n", "\n\n\n\n"} {
		parsed(t, "config 1 1 2 5\nprogram\nfunc\nnop"+behind, config(least))
		refused(t, "config 1 1 2"+behind, 0, api.ErrEnd)
		refused(t, "config 1 1 2 5"+behind, -1, api.ErrEnd)
		refused(t, "steps 1048577"+behind, 0, api.ErrBig)
		refused(t, "\ndraw 1 x"+behind, 1, api.ErrForm)
		refused(t, "what"+behind, 0, api.ErrKind)
		// A program without a function.
		refused(t, "config 1 1 2 5\nprogram"+behind, 1, api.ErrBig)
	}
	// A byte 13 is one of its line.
	refused(t, "config 1 1 2 5\r\nprogram\r\n", 0, api.ErrForm)
	refused(t, "config 1 1 2 5\nprogram\r\nfunc\nnop", 1, api.ErrKind)
	refused(t, "config 1 1 2 5\r"+nop, 0, api.ErrForm)
}

// P25.1: empty lines say nothing, wherever they stand; but they are lines.
func TestEmptyLines(t *testing.T) {
	lines := []string{"draw 5", "config 1 1 2 5", "steps 7", "log 53", "draw 6 7", "program", "func", "nop"}
	want := tool.Job{Program: nopProgram, Config: least, Steps: 7, Numbers: []uint64{5, 6, 7}, Log: "S", Logged: true}
	for at := range len(lines) + 1 {
		for many := range 4 {
			with := func(more ...string) string {
				return strings.Join(slices.Concat(lines[:at], slices.Repeat([]string{""}, many), more, lines[at:]), "\n")
			}
			parsed(t, with(), want)
			refused(t, with("nil"), at+many, api.ErrKind)
			refused(t, with("")+"\nnil", len(lines)+many+1, api.ErrKind)
			// What layer 11 tells at no line, at the line "program".
			program := slices.Index(lines, "program")
			if at <= program {
				program += many
			}
			refused(t, with()+"\nconst 8 0", program, api.ErrArg)
		}
	}
}

// P25.1: lines ahead of "program" may stand in any order.
func TestAnyOrder(t *testing.T) {
	want := tool.Job{Program: nopProgram, Config: least, Steps: 7, Numbers: []uint64{5, 6}, Log: "S", Logged: true}
	lines := []string{"config 1 1 2 5", "steps 7", "draw 5 6", "log 53"}
	orders := 0
	for a := range 4 {
		for b := range 4 {
			for c := range 4 {
				d := 6 - a - b - c
				if a == b || a == c || b == c {
					continue
				}
				orders++
				parsed(t, strings.Join([]string{lines[a], lines[b], lines[c], lines[d], nop}, "\n"), want)
			}
		}
	}
	if orders != 24 {
		t.Error(orders)
	}
}

// P25.1: each of the lines but config may be left out.
func TestLeftOut(t *testing.T) {
	for chosen := range 16 {
		text, want := "", tool.Job{Program: nopProgram}
		for i, x := range []struct {
			line string
			put  func()
		}{
			{"config 1 1 2 5", func() { want.Config = least }},
			{"steps 7", func() { want.Steps = 7 }},
			{"draw 5 6", func() { want.Numbers = []uint64{5, 6} }},
			{"log 53", func() { want.Log, want.Logged = "S", true }},
		} {
			if chosen>>i&1 == 1 {
				text += x.line + "\n"
				x.put()
			}
		}
		refused(t, text, -1, api.ErrEnd)
		if chosen&1 == 1 {
			parsed(t, text+nop, want)
			continue
		}
		refused(t, text+nop, -1, api.ErrNone)
	}
}

// P25.1: the first words that there are, and others, which begin or end with one, or differ from it.
func TestFirstWords(t *testing.T) {
	for _, word := range []string{"config", "steps", "draw", "log", "program"} {
		for _, other := range []string{
			word[:len(word)-1], word[1:], word + "s", word + word, "x" + word, word + "\t", word + "\r", word + "\x00", "\x00" + word, word + "0", word + "1 1 2 5", word + ":", word + ",",
			" " + word, "  " + word, "\t" + word, strings.ToUpper(word), strings.ToUpper(word[:1]) + word[1:], word[:1] + " " + word[1:], "\"" + word + "\"", "-" + word, word + "\xc2\xa0" + "1",
		} {
			for _, behind := range []string{"", " 1", " 1 1 2 5", " 53"} {
				refused(t, other+behind+end, 0, api.ErrKind)
				refused(t, "steps 1\n\n"+other+behind+end, 2, api.ErrKind)
				refused(t, other+behind, 0, api.ErrKind)
			}
		}
	}
	for _, line := range []string{" ", "  ", "   ", "\t", "\x00", "\x0b", "0", "1", "-1", "53", "func", "nop", "chan 0", "locks 1", "recv 0 0", "else", "error", "out", "sum 00000000", "trap 1", "halted", "step 1", "draws 1", "é", "\xff", "; config", "# x", "//", "at 1", "line 1", "logs", "configure", "programs", "drawn"} {
		refused(t, line+end, 0, api.ErrKind)
		refused(t, "\n"+line, 1, api.ErrKind)
	}
}

// P25.1: the line "program" has nothing behind its word; it ends what stands ahead, and begins what stands behind.
func TestTheLineProgram(t *testing.T) {
	for _, line := range []string{"program ", "program  ", "program x", "program 1", "program func", "program\t", " program", "program program"} {
		refused(t, "config 1 1 2 5\n"+line+"\nfunc\nnop", 1, api.ErrKind)
		refused(t, "config 1 1 2 5\n"+line, 1, api.ErrKind)
	}
	for _, line := range []string{"config 1 1 2 5", "steps 1", "draw 1", "log 53", "program"} {
		refused(t, "config 1 1 2 5\nprogram\n"+line+"\nfunc\nnop", 2, api.ErrKind)
		refused(t, "config 1 1 2 5\n"+nop+"\n"+line, 4, api.ErrKind)
		refused(t, "\n\nconfig 1 1 2 5\nprogram\nfunc\n"+line, 5, api.ErrKind)
	}
	// Behind it alone stands a program.
	refused(t, "config 1 1 2 5\nfunc\n"+nop, 1, api.ErrKind)
	refused(t, "config 1 1 2 5\nchan 1\n"+nop, 1, api.ErrKind)
}

// P25.1: each part of a program stands behind the line "program".
func TestPrograms(t *testing.T) {
	text := "chan 3\nlocks 2\nrecv 0 1\nsend 0 2\nelse\nfunc\nconst 1 -5\n\nlock 1\nselect 0 3 1\nfunc\nnop"
	want := job(func(j *tool.Job) {
		j.Program = code.Program{
			Funcs: [][]code.Ins{{{Op: code.Const, A: 1, B: -5}, {Op: code.Lock, A: 1}, {Op: code.Select, B: 3, C: 1}}, {{}}},
			Chans: []int{3},
			Locks: 2,
			Cases: []code.Case{{Reg: 1}, {Way: code.WaySend, Reg: 2}, {Way: code.WayElse}},
		}
	})
	for _, behind := range []string{"", "\n", "\n\n"} {
		parsed(t, "config 1 1 2 5\nprogram\n"+text+behind, want)
	}
}

// P25.1: layer 11's errors, each at its line of the text.
func TestErrorsOfPrograms(t *testing.T) {
	for text, want := range map[string]struct {
		line int
		err  api.Errno
	}{
		"what":                      {0, api.ErrKind},
		"func\nwhat":                {1, api.ErrKind},
		"func\nnop\n\n\nchan 1":     {4, api.ErrKind},
		"\n\nnop":                   {2, api.ErrKind},
		" func":                     {0, api.ErrKind},
		"chan":                      {0, api.ErrEnd},
		"func\nconst 1":             {1, api.ErrEnd},
		"func\nconst 1 ":            {1, api.ErrForm},
		"func\nconst 1 02":          {1, api.ErrForm},
		"func\nnop 1":               {1, api.ErrForm},
		"func\nnop\nemit +1":        {2, api.ErrForm},
		"locks 9223372036854775808": {0, api.ErrBig},
		"locks 1\nlocks 1":          {1, api.ErrTwice},
		"chan 1\nlocks 1\n\nlocks":  {3, api.ErrEnd},
		// Those that layer 11 tells at no line.
		"":                   {-1, api.ErrBig},
		"\n\n":               {-1, api.ErrBig},
		"chan 1\n":           {-1, api.ErrBig},
		"func":               {-1, api.ErrBig},
		"func\nnop\nfunc":    {-1, api.ErrBig},
		"func\nemit 8":       {-1, api.ErrArg},
		"func\nnop\nlock 0":  {-1, api.ErrArg},
		"chan 17\nfunc\nnop": {-1, api.ErrArg},
		"locks 9\nfunc\nnop": {-1, api.ErrBig},
		"func\njump 1":       {-1, api.ErrArg},
	} {
		for ahead, lines := range map[string]int{"": 0, "config 1 1 2 5\n": 1, "\n\nsteps 9\ndraw\n\n": 5, "config 1 1 2 5\ndraw 1 2\nlog \n": 3} {
			refused(t, ahead+"program\n"+text, lines+1+want.line, want.err)
			refused(t, ahead+"program\n"+text+"\n", lines+1+want.line, want.err)
		}
	}
	refused(t, "config 1 1 2 5\nprogram", 1, api.ErrBig)
	refused(t, "program", 0, api.ErrBig)
}

// P25.1: a program's text has at most 20000 bytes, without what stands ahead; else it is wrong at its first line.
func TestLongPrograms(t *testing.T) {
	for _, ahead := range []string{"config 1 1 2 5\n", "\n\nconfig 1 1 2 5\ndraw 1\ndraw 2" + strings.Repeat("\n", 9000)} {
		lines := strings.Count(ahead, "\n")
		for _, size := range []int{19999, 20000} {
			for _, text := range []string{"func\nnop" + strings.Repeat("\n", size-8), strings.Repeat("\n", size-8) + "func\nnop"} {
				if _, at, err := tool.Parse(ahead + "program\n" + text); at != -1 || err != api.OK {
					t.Errorf("%d bytes: %d, %d", size, at, err)
				}
			}
		}
		for _, size := range []int{20001, 20002, 30000} {
			refused(t, ahead+"program\nfunc\nnop"+strings.Repeat("\n", size-8), lines+1, api.ErrBig)
			refused(t, ahead+"program\nfunc\nwhat"+strings.Repeat("\n", size-9), lines+1, api.ErrBig)
		}
	}
}

// P25.1: of two errors the one that comes first; those that stand at no line come behind all others, and of these that there is no line "program" ahead of that there is no config.
func TestTheFirstError(t *testing.T) {
	type fault struct {
		line string
		err  api.Errno
	}
	faults := []fault{{"what", api.ErrKind}, {"steps", api.ErrEnd}, {"steps x", api.ErrForm}, {"steps 1048577", api.ErrBig}, {"config 0 1 2 5", api.ErrArg}, {"draw -1", api.ErrForm}, {"log 5", api.ErrForm}, {"log", api.ErrForm}, {"config 1 1 2", api.ErrEnd}}
	for _, a := range faults {
		for _, b := range faults {
			refused(t, a.line+"\n"+b.line, 0, a.err)
			refused(t, "draw 1\n\n"+a.line+"\n\n"+b.line+end, 2, a.err)
		}
		refused(t, a.line+"\n"+nop, 0, a.err)
		refused(t, a.line+"\nprogram\nwhat", 0, a.err)
		refused(t, a.line+"\nprogram", 0, a.err)
		refused(t, a.line, 0, a.err)
	}
	refused(t, "program\nwhat", 1, api.ErrKind)
	refused(t, "program\nfunc\nemit 8", 0, api.ErrArg)
	refused(t, nop, -1, api.ErrNone)
	refused(t, "steps 1\n"+nop, -1, api.ErrNone)
	refused(t, "steps 1\ndraw 1\nlog 53", -1, api.ErrEnd)
	refused(t, "config 1 1 2 5", -1, api.ErrEnd)
}

// K3: what was answered stays, and shares nothing.
func TestParsedStays(t *testing.T) {
	text := "config 1 1 2 5\ndraw 1 2 3\ndraw 4\nlog 53\nprogram\nchan 1\nrecv 0 1\nfunc\nnop\nemit 1"
	a, _, _ := tool.Parse(text)
	b, _, _ := tool.Parse(text)
	clear(a.Numbers[:cap(a.Numbers)])
	clear(a.Program.Chans)
	clear(a.Program.Cases)
	a.Program.Funcs[0][1].A = 7
	c, _, _ := tool.Parse(text)
	if !same(b, c) || same(a, b) || !slices.Equal(b.Numbers, []uint64{1, 2, 3, 4}) {
		t.Errorf("%+v\n%+v", b, c)
	}
}
