package tool_test

import (
	"fmt"
	"math"
	"slices"
	"strings"
	"testing"

	"shunter/api"
	"shunter/record"
	"shunter/segment"
	"shunter/taper"
	"shunter/tool"
)

// words are the statuses, with their numbers as places.
var words = strings.Fields("- halted trapped deadlock exhausted limit broken malformed strayed")

// tells is what Run should tell of a job, by the chapter's words.
func tells(j tool.Job) string {
	x, log := must(j)
	text := fmt.Sprintf("%s\nsteps %d\n", words[x.Status], x.Steps)
	if x.Status == taper.Trapped {
		text += fmt.Sprintf("trap %d\n", x.Trap)
	}
	if x.Status == taper.Strayed {
		w := x.Where
		text += fmt.Sprintf("at %d kind %d below %d stands %d %d\n", w.At, w.Kind, w.N, w.Got.Kind, w.Got.N)
	}
	if len(x.Out) > 0 {
		text += strings.ReplaceAll(fmt.Sprintf("out %d\n", x.Out), "[", "")
		text = strings.ReplaceAll(text, "]", "")
	}
	if len(x.Sums) > 0 {
		text += fmt.Sprintf("sum %08x\n", x.Sums[len(x.Sums)-1])
	}
	if !j.Logged {
		text += fmt.Sprintf("log %x\n", log)
	}
	return text
}

// runs holds a text against what is told of it, but for the sum, which stands there as "?" (and is held against layer 19's).
func runs(t *testing.T, text, want string) {
	t.Helper()
	got := tool.Run(text)
	j, at, err := tool.Parse(text)
	if at != -1 || err != api.OK {
		t.Fatalf("%q: %d, %d", short(text), at, err)
	}
	if all := tells(j); got != all {
		t.Errorf("%q: %q, not %q", short(text), got, all)
	}
	lines := strings.Split(got, "\n")
	for i, line := range lines {
		if strings.HasPrefix(line, "sum ") {
			lines[i] = "sum ?"
		}
	}
	if got := strings.Join(lines, "\n"); got != want {
		t.Errorf("%q: %q, not %q", short(text), got, want)
	}
}

// log is the line of a log of decisions; of none it has no digits, but its blank.
func log(l ...record.Record) string {
	return fmt.Sprintf("log %x\n", logOf(l))
}

// draws is the line by which these are drawn.
func draws(l ...record.Record) string {
	text := "draw"
	for _, n := range numbers(l) {
		text += fmt.Sprint(" ", n)
	}
	return text + "\n"
}

// P25.1: the lines of each status, without a log, and by the log of that.
func TestRunEnds(t *testing.T) {
	for _, x := range []struct {
		program string
		steps   int
		draws   []record.Record
		want    string
		taken   int
	}{
		{"func\nreturn 0", 9, picks(0, 9), "halted\nsteps 3\nsum ?\n", 3},
		{"func\nemit 0\nreturn 0", 9, picks(0, 4), "halted\nsteps 4\nout 0\nsum ?\n", 4},
		{"func\ntrap 9", 9, picks(0, 9), "trapped\nsteps 3\ntrap 9\nsum ?\n", 3},
		{"func\ntrap 0", 9, picks(0, 3), "trapped\nsteps 3\ntrap 0\nsum ?\n", 3},
		{"func\nemit 1\nemit 1\ntrap 1048575", 9, picks(0, 9), "trapped\nsteps 5\ntrap 1048575\nout 0 0\nsum ?\n", 5},
		{"chan 0\nfunc\nclose 0\nclose 0", 9, picks(0, 9), "trapped\nsteps 4\ntrap -2\nsum ?\n", 4},
		{"func\nnop", 9, picks(0, 9), "trapped\nsteps 4\ntrap -7\nsum ?\n", 4},
		{"chan 0\nfunc\nrecv 0 1 2", 9, picks(0, 9), "deadlock\nsteps 3\nsum ?\n", 3},
		{"chan 0\nfunc\nemit 3\nrecv 0 1 2", 9, picks(0, 9), "deadlock\nsteps 4\nout 0\nsum ?\n", 4},
		{"func\njump 0", 9, picks(0, 5), "exhausted\nsteps 5\nsum ?\n", 5},
		{"func\nemit 0\njump 0", 99, picks(0, 7), "exhausted\nsteps 7\nout 0 0 0\nsum ?\n", 7},
		{"func\njump 0", 9, nil, "exhausted\nsteps 0\n", 0},
		// A draw within a step finds nothing.
		{"func\nrand 0 5", 9, picks(0, 3), "exhausted\nsteps 2\nsum ?\n", 3},
		{"func\njump 0", 4, picks(0, 5), "limit\nsteps 4\nsum ?\n", 4},
		{"func\njump 0", 4, picks(0, 4), "limit\nsteps 4\nsum ?\n", 4},
		{"func\nemit 0\njump 0", 3, picks(0, 5), "limit\nsteps 3\nout 0\nsum ?\n", 3},
		{"func\njump 0", 0, picks(0, 5), "limit\nsteps 0\n", 0},
		{"func\njump 0", 0, nil, "limit\nsteps 0\n", 0},
	} {
		for _, end := range []string{"", "\n", "\n\n"} {
			ahead := fmt.Sprintf("config 1 1 2 5\nsteps %d\n", x.steps)
			behind := "program\n" + x.program + end
			runs(t, ahead+draws(x.draws...)+behind, x.want+log(x.draws[:x.taken]...))
			runs(t, ahead+log(x.draws[:x.taken]...)+behind, x.want)
			runs(t, draws(x.draws...)+log(x.draws[:x.taken]...)+ahead+behind, x.want)
		}
	}
}

// P25.1: a log without decisions has no bytes: its line is its word, and a blank.
func TestRunNoDecisions(t *testing.T) {
	for text, want := range map[string]string{
		"config 1 1 2 5\nprogram\nfunc\nnop":                "limit\nsteps 0\nlog \n",
		"config 1 1 2 5\nsteps 1\nprogram\nfunc\nnop":       "exhausted\nsteps 0\nlog \n",
		"config 1 1 2 5\nlog \nprogram\nfunc\nnop":          "limit\nsteps 0\n",
		"config 1 1 2 5\nlog \nsteps 1\nprogram\nfunc\nnop": "exhausted\nsteps 0\n",
	} {
		runs(t, text, want)
	}
}

// P25.1: logs that are none: nothing else is told.
func TestRunMalformed(t *testing.T) {
	whole := fmt.Sprintf("%x", logOf(picks(0, 5)))
	for _, log := range []string{"00", "53", "5367", "536700", "0a", whole + "00", whole[:len(whole)-2], whole[2:], whole + whole} {
		for _, steps := range []int{0, 1, 4, 1 << 20} {
			runs(t, fmt.Sprintf("config 1 1 2 5\nsteps %d\nlog %s\nprogram\nfunc\nemit 0\njump 0", steps, log), "malformed\nsteps 0\n")
		}
	}
}

// P25.1: where a log strays: which decision, what was asked, what stands there.
func TestRunStrayed(t *testing.T) {
	at := func(text string, l ...record.Record) string {
		return "config 2 2 4 9\nsteps 99\n" + log(l...) + "program\n" + text
	}
	runs(t, at("func\nreturn 0", pick(5)), "strayed\nsteps 0\nat 0 kind 1 below 3 stands 1 5\n")
	runs(t, at("func\nreturn 0", pick(3), pick(0)), "strayed\nsteps 0\nat 0 kind 1 below 3 stands 1 3\n")
	runs(t, at("func\nreturn 0", pick(0), victim(0)), "strayed\nsteps 1\nat 1 kind 1 below 3 stands 2 0\nsum ?\n")
	runs(t, at("func\nrand 1 7", pick(0), pick(0), pick(0), number(7)), "strayed\nsteps 2\nat 3 kind 4 below 7 stands 4 7\nsum ?\n")
	runs(t, at("func\nrand 1 1099511627775", pick(0), pick(0), pick(0), number(record.MostN)), "strayed\nsteps 2\nat 3 kind 4 below 1099511627775 stands 4 4611686018427387903\nsum ?\n")
	runs(t, at("func\nrand 1 7", pick(0), pick(0), pick(0), which(6)), "strayed\nsteps 2\nat 3 kind 4 below 7 stands 3 6\nsum ?\n")
	runs(t, at("func\nemit 0\nemit 0\nnop", slices.Concat(picks(0, 4), picks(1<<40, 1))...), "strayed\nsteps 4\nat 4 kind 1 below 3 stands 1 1099511627776\nout 0 0\nsum ?\n")
	l := tourDraws()
	l[5] = victim(2)
	runs(t, at(tourText, l...), "strayed\nsteps 4\nat 5 kind 2 below 2 stands 2 2\nsum ?\n")
	l = tourDraws()
	l[16] = pick(1)
	runs(t, at(tourText, l...), "strayed\nsteps 11\nat 16 kind 3 below 2 stands 1 1\nout 4\nsum ?\n")
	// The first decision of the second segment's, at which as many steps are done as there may be, or not.
	l = picks(0, 101)
	l[100] = number(0)
	runs(t, at("func\njump 0", l...), "limit\nsteps 99\nsum ?\n")
	runs(t, strings.Replace(at("func\njump 0", l...), "steps 99", "steps 101", 1), "strayed\nsteps 100\nat 100 kind 1 below 3 stands 4 0\nsum ?\n")
}

// P25.1: numbers that were told, of any sign, up to the limits, in their order; also very many.
func TestRunOut(t *testing.T) {
	told := []int64{-5, 0, 7, -1, 10, 1, math.MaxInt64, math.MinInt64, 7, 7, -100}
	text, want := "func\n", "out"
	for _, n := range told {
		text += fmt.Sprintf("const 1 %d\nemit 1\n", n)
		want += fmt.Sprint(" ", n)
	}
	draws := "draw" + strings.Repeat(" 0", 99) + "\n"
	runs(t, "config 1 1 2 1000\nsteps 99\n"+draws+"program\n"+text+"return 0\n", "halted\nsteps 25\n"+want+"\nsum ?\n"+log(picks(0, 25)...))
	for _, many := range []int{1, 2, 999, 1000} {
		steps := 2 + 2*many
		text := fmt.Sprintf("config 1 1 2 1024\nsteps %d\ndraw%s\nprogram\nfunc\nemit 1\njump 0", steps, strings.Repeat(" 0", 3000))
		got := tool.Run(text)
		want := "out" + strings.Repeat(" 0", many) + "\n"
		if !strings.Contains(got, "\n"+want) || strings.Count(got, "out") != 1 {
			t.Errorf("%d numbers: %q", many, short(got))
		}
	}
}

// P25.1: a sum is eight digits, noughts ahead among them.
func TestRunSums(t *testing.T) {
	noughts := [9]int{}
	for n := range 3000 {
		text := fmt.Sprintf("config 1 1 2 9\nsteps 4\ndraw 0 0 0 %d 0\nprogram\nfunc\nrand 1 1000000\njump 0", n)
		j, _, _ := tool.Parse(text)
		x, _ := must(j)
		sum := ""
		for place := range 8 {
			sum += string("0123456789abcdef"[x.Sums[3]>>(28-4*place)&15])
		}
		if got := tool.Run(text); !strings.HasPrefix(got, "limit\nsteps 4\nsum "+sum+"\nlog ") {
			t.Fatalf("%d: %q, the sum is %s", n, got, sum)
		}
		noughts[8-len(strings.TrimLeft(sum, "0"))]++
	}
	if noughts[0] < 2500 || noughts[1] < 100 || noughts[2] < 4 {
		t.Error(noughts)
	}
}

// P25.1: the log's bytes, two digits each.
func TestRunLogBytes(t *testing.T) {
	frame, _ := segment.Frame(0, record.Bytes(picks(0, 3)...))
	digits := ""
	for i := range len(frame) {
		digits += string("0123456789abcdef"[frame[i]/16]) + string("0123456789abcdef"[frame[i]%16])
	}
	got := tool.Run("config 1 1 2 1\nsteps 9\ndraw 0 0 0\nprogram\nfunc\nreturn 0")
	if !strings.HasPrefix(got, "halted\nsteps 3\nsum ") || !strings.HasSuffix(got, "\nlog 53670003000000"+digits[14:]+"\n") || !strings.HasPrefix(digits, "53670003000000") {
		t.Errorf("%q, not %s", got, digits)
	}
	// As many decisions as there may be, each of as many bytes as may be.
	draws := strings.Repeat(" 1099511627774", 2000)
	text := "config 1 1 2 1024\nsteps 1048576\ndraw" + draws + "\nprogram\nfunc\nrand 1 1099511627775\nrand 1 1099511627775\nrand 1 1099511627775\njump 0"
	j, at, err := tool.Parse(text)
	if got := tool.Run(text); at != -1 || err != api.OK || got != tells(j) || len(got) < 2*2000*3 {
		t.Errorf("%d, %d: %q", at, err, short(got))
	}
}

// P25.1: of what Parse refuses the error's number, and the line.
func TestRunErrors(t *testing.T) {
	for text, want := range map[string]string{
		"":                                       "error 2 line -1\n",
		"config 1 1 2 5":                         "error 2 line -1\n",
		nop:                                      "error 5 line -1\n",
		"what":                                   "error 9 line 0\n",
		"\n\nwhat":                               "error 9 line 2\n",
		"config 1 1 2":                           "error 2 line 0\n",
		"config 1 1 2 x":                         "error 1 line 0\n",
		"config 0 1 2 5":                         "error 4 line 0\n",
		"steps 1\nsteps 1":                       "error 11 line 1\n",
		"steps 1\n\nsteps 1\nwhat":               "error 11 line 2\n",
		"steps 2000000":                          "error 3 line 0\n",
		"program":                                "error 3 line 0\n",
		"program\nwhat":                          "error 9 line 1\n",
		"program\nlocks 1\nlocks 1":              "error 11 line 2\n",
		strings.Repeat("\n", 40000):              "error 2 line -1\n",
		strings.Repeat("\n", 40001):              "error 3 line 0\n",
		strings.Repeat("\n", 39996) + "what":     "error 9 line 39996\n",
		"config 1 1 2 5\nprogram\nfunc\nemit 8":  "error 4 line 1\n",
		"config 1 1 2 5\nprogram\nfunc\nemit":    "error 2 line 3\n",
		"config 1 1 2 5\nprogram\nfunc\nemit 1x": "error 1 line 3\n",
	} {
		if got := tool.Run(text); got != want {
			t.Errorf("%q: %q, not %q", short(text), got, want)
		}
	}
}
