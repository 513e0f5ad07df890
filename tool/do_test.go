package tool_test

import (
	"fmt"
	"math"
	"slices"
	"testing"

	"shunter/api"
	"shunter/asm"
	"shunter/code"
	"shunter/logbook"
	"shunter/record"
	"shunter/sched"
	"shunter/segment"
	"shunter/snap"
	"shunter/source"
	"shunter/taper"
	"shunter/tool"
)

func pick(n uint64) record.Record   { return record.Record{Kind: record.Pick, N: n} }
func victim(n uint64) record.Record { return record.Record{Kind: record.Victim, N: n} }
func which(n uint64) record.Record  { return record.Record{Kind: record.Case, N: n} }
func number(n uint64) record.Record { return record.Record{Kind: record.Rand, N: n} }

// picks are so many of the same.
func picks(n uint64, times int) []record.Record {
	return slices.Repeat([]record.Record{pick(n)}, times)
}

// numbers are those by which an oracle draws these decisions.
func numbers(l []record.Record) []uint64 {
	var all []uint64
	for _, r := range l {
		all = append(all, r.N)
	}
	return all
}

// assembled is a text's program.
func assembled(t *testing.T, text string) code.Program {
	t.Helper()
	p, line, err := asm.Parse(text)
	if err != api.OK {
		t.Fatalf("%q: line %d, error %d", text, line, err)
	}
	return p
}

var (
	one = sched.Config{P: 1, M: 1, Ring: 2, Slice: 9}
	two = sched.Config{P: 2, M: 2, Ring: 4, Slice: 9}
)

// tourText is a program that draws of each kind, when it draws so.
const tourText = "chan 9\nchan 9\nlocks 1\nsend 0 1\nsend 1 1\nfunc\nspawn 1 0 2\nselect 0 2 2\nrand 1 7\njump 1\nfunc\nrand 1 5\nemit 1\nsend 0 1\njump 0"

func tourDraws() []record.Record {
	return slices.Concat(picks(1, 3), []record.Record{pick(0), pick(0), victim(0), pick(1), which(1), pick(0), number(4), pick(1), number(6), pick(2), pick(0), pick(1), pick(1), which(0)})
}

// logOf is a log of decisions, a hundred a segment.
func logOf(l []record.Record) string {
	log := ""
	for seq := uint64(0); len(l) > 0; seq++ {
		many := min(len(l), 100)
		text, _ := segment.Frame(seq, record.Bytes(l[:many]...))
		log, l = log+text, l[many:]
	}
	return log
}

// must is what Do should answer, by the chapters' words.
func must(j tool.Job) (taper.Result, string) {
	if !j.Logged {
		draws := source.Oracle(j.Numbers)
		return ran(j, draws), logOf(draws.Taken())
	}
	l, end, _ := logbook.Read(j.Log)
	if end < len(j.Log) {
		return taper.Result{Status: taper.Malformed, Err: api.ErrForm}, ""
	}
	return ran(j, source.Tape(l)), ""
}

// ran is what a scheduler's steps come to.
func ran(j tool.Job, draws *source.Source) taper.Result {
	s := sched.New(j.Program, j.Config, draws)
	x, end := taper.Result{}, source.Well
	for s.Status() == sched.Going && s.Steps() < j.Steps && end == source.Well {
		end, x.Where = source.Guard(func() {
			s.Step()
			x.Sums = append(x.Sums, snap.Digest(snap.All(s, len(j.Program.Chans), j.Program.Locks)))
		})
	}
	x.Steps, x.Out = s.Steps(), s.World().Out()
	switch {
	case end == source.Spent:
		x.Status = taper.Exhausted
	case end == source.Strayed:
		x.Status = taper.Strayed
	case s.Status() == sched.Halted:
		x.Status = taper.Halted
	case s.Status() == sched.Trapped:
		x.Status = taper.Trapped
		_, x.Trap = s.World().End()
	case s.Status() == sched.Deadlock:
		x.Status = taper.Deadlock
	default:
		x.Status = taper.Limit
	}
	return x
}

// does holds a job against what becomes of it.
func does(t *testing.T, name string, j tool.Job) taper.Result {
	t.Helper()
	x, log := tool.Do(j)
	want, bytes := must(j)
	if !alike(x, want) {
		t.Fatalf("%s: %+v\nnot %+v", name, x, want)
	}
	if log != bytes {
		t.Fatalf("%s: the log is %x, not %x", name, log, bytes)
	}
	return x
}

// ends holds a job besides against how it ends, and behind how many steps.
func ends(t *testing.T, name string, j tool.Job, status, steps int) taper.Result {
	t.Helper()
	x := does(t, name, j)
	if x.Status != status || x.Steps != steps {
		t.Errorf("%s: %d behind %d steps, not %d behind %d", name, x.Status, x.Steps, status, steps)
	}
	return x
}

// alike: is one as the other one, in all that it tells?
func alike(a, b taper.Result) bool {
	same := a.Status == b.Status && a.Steps == b.Steps && a.Trap == b.Trap && a.Err == b.Err && a.Where == b.Where
	return same && slices.Equal(a.Out, b.Out) && slices.Equal(a.Sums, b.Sums)
}

// P25.1: jobs without a log, of each end.
func TestDoEnds(t *testing.T) {
	for _, x := range []struct {
		text                string
		numbers             []uint64
		most, status, steps int
	}{
		{"func\nemit 0\nreturn 0", make([]uint64, 9), 99, taper.Halted, 4},
		{"func\nreturn 0", make([]uint64, 3), 9, taper.Halted, 3},
		{"func\nreturn 0", make([]uint64, 3), 3, taper.Halted, 3},
		{"func\nreturn 0", make([]uint64, 3), 2, taper.Limit, 2},
		{"func\nreturn 0", make([]uint64, 2), 9, taper.Exhausted, 2},
		{"func\nreturn 0", nil, 9, taper.Exhausted, 0},
		{"func\nreturn 0", nil, 0, taper.Limit, 0},
		{"func\ntrap 9", make([]uint64, 3), 99, taper.Trapped, 3},
		{"func\ntrap 0", make([]uint64, 3), 99, taper.Trapped, 3},
		{"chan 0\nfunc\nclose 0\nclose 0", make([]uint64, 5), 99, taper.Trapped, 4},
		{"chan 0\nfunc\nrecv 0 1 2", make([]uint64, 3), 99, taper.Deadlock, 3},
		{"func\nrand 1 3\njump 0", make([]uint64, 3), 99, taper.Exhausted, 2},
		{"func\njump 0", make([]uint64, 7), 7, taper.Limit, 7},
		{"func\njump 0", make([]uint64, 7), 8, taper.Exhausted, 7},
	} {
		j := tool.Job{Program: assembled(t, x.text), Config: one, Steps: x.most, Numbers: x.numbers}
		ends(t, x.text, j, x.status, x.steps)
	}
}

// P25.1: steps: none, also below none, fewer than there are, as many, and more.
func TestDoSteps(t *testing.T) {
	j := tool.Job{Program: assembled(t, tourText), Config: two, Numbers: numbers(tourDraws())}
	log := logOf(tourDraws())
	drawn := []int{0, 1, 2, 3, 4, 6, 8, 10, 12, 13, 14, 15, 17} // behind so many steps
	for _, most := range []int{math.MinInt, -1, 0, 1, 2, 5, 7, 11, 12, 13, 4000, 1 << 20} {
		steps, status := min(max(most, 0), 12), taper.Limit
		if most > 12 {
			status = taper.Exhausted
		}
		j.Steps = most
		name := fmt.Sprint("at most ", most)
		x := ends(t, name, j, status, steps)
		again := ends(t, name+", with a log", tool.Job{Program: j.Program, Config: two, Steps: most, Log: log, Logged: true}, status, steps)
		if !alike(x, again) {
			t.Errorf("%s: %+v, not %+v", name, again, x)
		}
		// No decision more than was drawn.
		if _, bytes := tool.Do(j); bytes != logOf(tourDraws()[:drawn[steps]]) {
			t.Errorf("%s: the log is %x", name, bytes)
		}
	}
}

// P25.1: a log has all that was drawn, a hundred a segment, the last ones too; none without any.
func TestLogsOfJobs(t *testing.T) {
	p := assembled(t, "func\nrand 1 1099511627775\njump 0")
	for _, many := range []int{0, 1, 2, 3, 5, 98, 99, 100, 101, 102, 199, 200, 201, 250, 999, 1000, 1001, 3999, 4000} {
		j := tool.Job{Program: p, Config: one, Steps: 1 << 20, Numbers: make([]uint64, many)}
		for i := range j.Numbers {
			// An even one, so a pick of the machine; by most of them a number takes all the bytes that it can.
			j.Numbers[i] = 1099511627774 - uint64(2*i)
		}
		draws := source.Oracle(j.Numbers)
		ran(j, draws)
		want := draws.Taken()
		if len(want) != many {
			t.Fatalf("%d draws of %d", len(want), many)
		}
		name := fmt.Sprint(many, " numbers")
		does(t, name, j)
		_, log := tool.Do(j)
		l, end, segments := logbook.Read(log)
		if !slices.Equal(l, want) || end != len(log) || segments != (many+99)/100 {
			t.Errorf("%s: %d decisions in %d segments, to %d of %d bytes", name, len(l), segments, end, len(log))
		}
		for seq, at := 0, 0; at < len(log); seq++ {
			n, body, behind, err := segment.Open(log, at)
			if err != api.OK || n != uint64(seq) || body != record.Bytes(want[100*seq:min(100*seq+100, many)]...) {
				t.Fatalf("%s: segment %d at %d: %d", name, seq, at, err)
			}
			at = behind
		}
	}
}

// P25.1: jobs with a log: of segments of whatever size, with none, of no bytes.
func TestDoLogs(t *testing.T) {
	p, l := assembled(t, tourText), tourDraws()
	by := func(log string) tool.Job {
		return tool.Job{Program: p, Config: two, Steps: 99, Log: log, Logged: true}
	}
	ends(t, "no bytes", by(""), taper.Exhausted, 0)
	frame := func(seq uint64, l ...record.Record) string {
		text, _ := segment.Frame(seq, record.Bytes(l...))
		return text
	}
	ends(t, "one segment without decisions", by(frame(0)), taper.Exhausted, 0)
	ends(t, "one segment", by(frame(0, l...)), taper.Exhausted, 12)
	ends(t, "three segments", by(frame(0, l[:2]...)+frame(1)+frame(2, l[2:]...)), taper.Exhausted, 12)
	ends(t, "the first decisions", by(frame(0, l[:9]...)), taper.Exhausted, 6)
	halts := by(frame(0, slices.Concat(picks(0, 3), l)...))
	halts.Program = assembled(t, "func\nreturn 0")
	ends(t, "more than it takes", halts, taper.Halted, 3)
}

// P25.1: logs that are none: bytes stand behind the last segment, whatever they are, and however many steps there may be.
func TestDoMalformed(t *testing.T) {
	p, log := assembled(t, tourText), logOf(tourDraws())
	other := []byte(log)
	other[9]++
	second, _ := segment.Frame(1, "\x00")
	twice, _ := segment.Frame(0, "\x00")
	third, _ := segment.Frame(2, "\x00")
	half, _ := segment.Frame(1, "\x80")
	for _, bytes := range []string{"x", "\x00", "\n", "Sg", log[:len(log)-1], log[1:], log + "\x00", log + "S", log + second[:5], log + twice, log + third, log + half, log + log, second, third, string(other)} {
		for _, most := range []int{-1, 0, 1, 99, 1 << 20} {
			x, told := tool.Do(tool.Job{Program: p, Config: two, Steps: most, Log: bytes, Logged: true})
			if !alike(x, taper.Result{Status: taper.Malformed, Err: api.ErrForm}) || told != "" {
				t.Errorf("%x, at most %d: %+v, %x", bytes, most, x, told)
			}
			does(t, fmt.Sprintf("%x", bytes), tool.Job{Program: p, Config: two, Steps: most, Log: bytes, Logged: true})
		}
	}
}

// P25.1: logs that stray, at each decision, by each kind.
func TestDoStrayed(t *testing.T) {
	p, l := assembled(t, tourText), tourDraws()
	below := []uint64{3, 3, 3, 3, 3, 2, 3, 2, 3, 5, 3, 7, 3, 3, 3, 3, 2}
	steps := []int{0, 1, 2, 3, 4, 4, 5, 5, 6, 6, 7, 7, 8, 9, 10, 11, 11}
	for at, is := range l {
		for kind := record.Pick; kind <= record.Rand; kind++ {
			for _, n := range []uint64{0, is.N, below[at] - 1, below[at], below[at] + 1, 1 << 40, record.MostN} {
				if kind == is.Kind && n < below[at] {
					continue
				}
				other := slices.Clone(l)
				other[at] = record.Record{Kind: kind, N: n}
				name := fmt.Sprintf("decision %d is %+v", at, other[at])
				x := ends(t, name, tool.Job{Program: p, Config: two, Steps: 99, Log: logOf(other), Logged: true}, taper.Strayed, steps[at])
				want := source.Unlike{At: at, Kind: is.Kind, N: int(below[at]), Got: other[at]}
				if x.Where != want {
					t.Errorf("%s: %+v, not %+v", name, x.Where, want)
				}
				// Not where the steps end ahead.
				ends(t, name, tool.Job{Program: p, Config: two, Steps: steps[at], Log: logOf(other), Logged: true}, taper.Limit, steps[at])
			}
		}
	}
}

// P25.1: a job is with a log if it is Logged: then its numbers say nothing, else its log doesn't.
func TestDoLoggedOrNot(t *testing.T) {
	j := tool.Job{Program: assembled(t, tourText), Config: two, Steps: 99, Numbers: numbers(tourDraws()), Log: logOf(tourDraws()[:9])}
	ends(t, "by numbers", j, taper.Exhausted, 12)
	j.Log = "x"
	ends(t, "by numbers, and no log", j, taper.Exhausted, 12)
	j.Logged = true
	if x := does(t, "no log", j); x.Status != taper.Malformed {
		t.Error(x)
	}
	j.Log = logOf(tourDraws()[:9])
	ends(t, "by a log", j, taper.Exhausted, 6)
	j.Log = ""
	ends(t, "by a log of nothing", j, taper.Exhausted, 0)
}

// K3, K4: a job stays as it is; what was told stays, shares nothing, and is told again.
func TestDoneStays(t *testing.T) {
	j := tool.Job{Program: assembled(t, tourText), Config: two, Steps: 99, Numbers: numbers(tourDraws())}
	still := tool.Job{Program: assembled(t, tourText), Config: two, Steps: 99, Numbers: numbers(tourDraws())}
	x, log := tool.Do(j)
	y, _ := tool.Do(j)
	clear(x.Sums[:cap(x.Sums)])
	clear(x.Out[:cap(x.Out)])
	want, bytes := must(still)
	if !alike(y, want) || log != bytes || !same(j, still) {
		t.Errorf("%+v, %x, %+v", y, log, j)
	}
	clear(j.Numbers)
	if !alike(y, want) {
		t.Errorf("%+v", y)
	}
	does(t, "again", still)
}
