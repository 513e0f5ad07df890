package tool_test

import (
	"fmt"
	"math/rand"
	"slices"
	"strings"
	"testing"

	"shunter/api"
	"shunter/asm"
	"shunter/logbook"
	"shunter/record"
	"shunter/sample"
	"shunter/sched"
	"shunter/taper"
	"shunter/tool"
)

// ending are programs that end in each way, when they are let.
var ending = []string{
	"func\nspawn 1 0 1\nspawn 1 0 1\nemit 1\nrand 2 5\nemit 2\nreturn 0\nfunc\nrand 1 9\nemit 1\njump 0",
	"chan 0\nfunc\nspawn 1 0 1\nspawn 1 0 1\nrecv 0 2 3\nemit 2\nreturn 0\nfunc\nrand 4 100\nsend 0 4\nreturn 0",
	"func\nspawn 1 0 1\nconst 1 -3\nemit 1\nyield\nyield\ntrap 7\nfunc\nyield\njump 0",
	"chan 1\nlocks 1\nfunc\nspawn 1 0 0\nspawn 1 0 0\nlock 0\nrecv 0 1 1\nreturn 0\nfunc\nlock 0\nrecv 0 1 1\nreturn 0",
	"chan 1\nchan 1\nrecv 0 1\nrecv 1 1\nsend 0 1\nsend 1 1\nelse\nfunc\nspawn 1 0 0\nselect 0 4 2\nselect 0 5 2\njump 1\nfunc\nselect 0 4 2\nsend 0 1\njump 0",
}

// drawn is a job by chance, and the lines of its text but for its log: those ahead of the line "program", and that and those behind it.
type drawn struct {
	j      tool.Job
	ahead  []string
	behind string
}

func draw(r *rand.Rand) drawn {
	p, c, short := program(r), sample.Config(r), r.Intn(2) == 0
	if short {
		p, _, _ = asm.Parse(sample.Some(r, ending...))
		c.P, c.M = min(c.P, 2), min(c.M, 2)
	}
	d := drawn{behind: "program\n" + asm.Text(p)}
	d.j = tool.Job{Program: p, Config: c, Steps: sample.Some(r, 1<<20, 4000, 4000, r.Intn(400), r.Intn(20), 0)}
	d.ahead = []string{fmt.Sprintf("config %d %d %d %d", c.P, c.M, c.Ring, c.Slice)}
	if d.j.Steps > 0 || r.Intn(2) == 0 {
		d.ahead = append(d.ahead, fmt.Sprintf("steps %d", d.j.Steps))
	}
	for range r.Intn(4) {
		many := r.Intn(sample.Some(r, 10, 100, 400))
		if short {
			many += 50
		}
		l := sample.Numbers(r, c, many)
		d.j.Numbers = append(d.j.Numbers, l...)
		d.ahead = append(d.ahead, "draw"+strings.TrimSuffix(" "+strings.Trim(fmt.Sprint(l), "[]"), " "))
	}
	return d
}

// text is all of it, with more lines somewhere ahead, of which those that draw keep their order.
func (d drawn) text(r *rand.Rand, more ...string) string {
	lines := slices.Clone(d.ahead)
	for _, line := range more {
		lines = slices.Insert(lines, r.Intn(len(lines)+1), line)
	}
	return strings.Join(append(lines, d.behind), "\n")
}

// P25.1: drawn jobs, by the chapters' words. P25.2: with the log that is told the same is told, but for the log.
func TestAgain(t *testing.T) {
	seen := map[int]int{}
	for seed := range int64(1000) {
		r := rand.New(rand.NewSource(seed))
		d := draw(r)
		text := d.text(r)
		parsed(t, text, d.j)
		name := fmt.Sprint("seed ", seed)
		x := does(t, name, d.j)
		seen[x.Status]++
		told := tool.Run(text)
		if want := tells(d.j); told != want {
			t.Fatalf("%s: %q, not %q", name, told, want)
		}
		lines := strings.SplitAfter(told, "\n")
		last := len(lines) - 2
		log, want := strings.TrimSuffix(lines[last], "\n"), strings.Join(lines[:last], "")
		if got := tool.Run(d.text(r, log)); got != want || !strings.HasPrefix(log, "log ") {
			t.Fatalf("%s: with its log %q, not %q", name, got, want)
		}
		// What would be drawn, and how the lines stand, makes no difference.
		bare := drawn{ahead: slices.DeleteFunc(slices.Clone(d.ahead), func(line string) bool { return strings.HasPrefix(line, "draw") }), behind: d.behind}
		if got := tool.Run(bare.text(r, "", log, "draw 3 2 1", "")); got != want {
			t.Fatalf("%s: with its log, and other draws, %q, not %q", name, got, want)
		}
		_, bytes := tool.Do(d.j)
		d.j.Log, d.j.Logged = bytes, true
		if y := does(t, name+", again", d.j); !alike(x, y) {
			t.Fatalf("%s: with its log %+v, not %+v", name, y, x)
		}
	}
	for status, least := range map[int]int{taper.Halted: 50, taper.Trapped: 30, taper.Deadlock: 40, taper.Exhausted: 200, taper.Limit: 200} {
		if seen[status] < least {
			t.Errorf("%s: %d times of %d", words[status], seen[status], least)
		}
	}
	if len(seen) != 5 {
		t.Error(seen)
	}
}

// P25.1: logs of drawn jobs, in which a decision is another, or isn't there, or a byte is another, by the chapters' words.
func TestSpoiltLogs(t *testing.T) {
	seen := map[int]int{}
	for seed := range int64(1500) {
		r := rand.New(rand.NewSource(seed))
		d := draw(r)
		_, log := must(d.j)
		d.j.Log, d.j.Logged = spoiltLog(r, log), true
		text := d.text(r, fmt.Sprintf("log %x", d.j.Log))
		if len(text) > tool.MaxText {
			refused(t, text, 0, api.ErrBig)
			continue
		}
		parsed(t, text, d.j)
		name := fmt.Sprint("seed ", seed)
		seen[does(t, name, d.j).Status]++
		if got, want := tool.Run(text), tells(d.j); got != want {
			t.Fatalf("%s: %q, not %q", name, got, want)
		}
	}
	for status, least := range map[int]int{taper.Halted: 15, taper.Trapped: 12, taper.Deadlock: 15, taper.Exhausted: 100, taper.Limit: 200, taper.Malformed: 200, taper.Strayed: 200} {
		if seen[status] < least {
			t.Errorf("%s: %d times of %d", words[status], seen[status], least)
		}
	}
}

// spoiltLog is one that is another, mostly; its end alone, perhaps.
func spoiltLog(r *rand.Rand, log string) string {
	if b := []byte(log); r.Intn(4) == 0 && len(b) > 0 {
		b[r.Intn(len(b))] ^= byte(1 + r.Intn(255))
		return string(b)
	}
	l, _, _ := logbook.Read(log)
	if r.Intn(3) == 0 {
		return logOf(append(l, picks(0, r.Intn(3))...))
	}
	for range 1 + r.Intn(3) {
		at := r.Intn(len(l) + 1)
		other := record.Record{Kind: sample.Some(r, 1, 1, 1, 2, 3, 4), N: sample.Some(r, 0, 1, 2, 3, r.Uint64()>>(2+r.Intn(62)))}
		if at == len(l) || r.Intn(3) == 0 {
			l = slices.Insert(l, at, other)
			continue
		}
		if r.Intn(3) == 0 {
			l = slices.Delete(l, at, at+1)
			continue
		}
		l[at] = other
	}
	return logOf(l)
}

// P1: a job about as great as a text can tell ends soon: many goroutines, each with many frames, by many decisions.
func TestGreatJobs(t *testing.T) {
	text := "func\n" + strings.Repeat("spawn 1 0 0\n", 48) + "call 1 0 0\nfunc\nspawn 2 0 0\ncall 2 0 0\n"
	for f := 3; f < 16; f++ {
		text += fmt.Sprintf("func\ncall %d 0 0\n", f)
	}
	text += "func\njump 0"
	c := sched.Config{P: 1, M: 1, Ring: 1024, Slice: 20}
	log := logOf(picks(0, 4000))
	whole := fmt.Sprintf("config 1 1 1024 20\nsteps 1048576\nlog %x\nprogram\n%s", log, text)
	parsed(t, whole, tool.Job{Program: assembled(t, text), Config: c, Steps: 1 << 20, Log: log, Logged: true})
	if got := tool.Run(whole); !strings.HasPrefix(got, "exhausted\nsteps 4000\nsum ") {
		t.Errorf("%q", short(got))
	}
}
