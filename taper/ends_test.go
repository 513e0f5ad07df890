package taper_test

import (
	"fmt"
	"math"
	"slices"
	"testing"

	"shunter/record"
	"shunter/sched"
	"shunter/source"
	"shunter/taper"
)

// P21.1: the document's example.
func TestThreeNoughts(t *testing.T) {
	b, s := opened(100, 9)
	p := program(t, "func\nreturn 0")
	x := taper.Record(p, one, make([]uint64, 3), 9, b)
	tells(t, "three noughts", x, taper.Result{Status: taper.Halted, Steps: 3, Sums: sums(t, p, one, picks(0, 3), 3)})
	has(t, "three noughts", s, picks(0, 3))
	if taper.Halted != 1 || taper.Trapped != 2 || taper.Deadlock != 3 || taper.Exhausted != 4 || taper.Limit != 5 || taper.Broken != 6 || taper.Malformed != 7 || taper.Strayed != 8 {
		t.Error("the statuses are others")
	}
}

// P21.1: it goes no more: halted, trapped with a number of its own or of what went wrong, in a deadlock; what was told is told.
func TestItGoesNoMore(t *testing.T) {
	for _, x := range []struct {
		text                string
		status, trap, steps int
		out                 []int64
	}{
		{"func\nreturn 0", taper.Halted, 0, 3, nil},
		{"func\nconst 1 -7\nemit 0\nemit 1\nreturn 0", taper.Halted, 0, 6, []int64{0, -7}},
		{"func\ntrap 9", taper.Trapped, 9, 3, nil},
		{"func\nconst 1 8\nemit 1\ntrap 1048575", taper.Trapped, 1048575, 5, []int64{8}},
		{"func\ntrap 0", taper.Trapped, 0, 3, nil},
		{"chan 0\nfunc\nclose 0\nsend 0 1", taper.Trapped, -1, 4, nil},
		{"chan 0\nfunc\nclose 0\nclose 0", taper.Trapped, -2, 4, nil},
		{"locks 1\nfunc\nemit 3\nunlock 0", taper.Trapped, -3, 4, []int64{0}},
		{"func\nnop", taper.Trapped, -7, 4, nil},
		{"chan 0\nfunc\nrecv 0 1 2", taper.Deadlock, 0, 3, nil},
		{"locks 2\nchan 3\nchan 0\nfunc\nlock 1\nsend 0 1\nemit 0\nlock 1", taper.Deadlock, 0, 6, []int64{0}},
	} {
		want := taper.Result{Status: x.status, Trap: x.trap, Steps: x.steps, Out: x.out}
		goes(t, x.text, x.text, one, picks(0, x.steps), 99, want, x.steps)
		goes(t, x.text+", of more draws", x.text, one, picks(0, x.steps+3), 99, want, x.steps)
		goes(t, x.text+", just as many steps", x.text, one, picks(0, x.steps), x.steps, want, x.steps)
	}
}

// P21.1: as many steps as may be: none, some, up to the one ahead of the end; at the end it is halted, and beyond it, too.
func TestMost(t *testing.T) {
	const text = "func\nemit 0\nyield\nconst 1 5\nemit 1\nreturn 0"
	out := [][]int64{nil, nil, nil, {0}, {0}, {0}, {0}, {0, 5}, {0, 5}}
	for _, most := range []int{0, 1, 2, 3, 4, 5, 6, 7} {
		goes(t, fmt.Sprint("at most ", most), text, one, picks(0, 8), most, taper.Result{Status: taper.Limit, Steps: most, Out: out[most]}, most)
		goes(t, fmt.Sprint("just ", most), text, one, picks(0, most), most, taper.Result{Status: taper.Limit, Steps: most, Out: out[most]}, most)
	}
	for _, most := range []int{8, 9, 1 << 20, math.MaxInt} {
		goes(t, fmt.Sprint("at most ", most), text, one, picks(0, 9), most, taper.Result{Status: taper.Halted, Steps: 8, Out: out[8]}, 8)
	}
	for _, most := range []int{-1, -9, math.MinInt32, math.MinInt} {
		goes(t, fmt.Sprint("at most ", most), text, one, picks(0, 9), most, taper.Result{Status: taper.Limit}, 0)
	}
	goes(t, "at most 0, without draws", text, one, nil, 0, taper.Result{Status: taper.Limit}, 0)
	goes(t, "without draws", text, one, nil, 1, taper.Result{Status: taper.Exhausted}, 0)
}

// tour is a run with each kind of draw, of which any may be the last one.
type tour struct {
	text  string
	draws []record.Record
	below []int // of each draw
	steps []int // the step of each draw
}

func theTour() tour {
	return tour{
		text:  "chan 9\nchan 9\nlocks 1\nsend 0 1\nsend 1 1\nfunc\nspawn 1 0 2\nselect 0 2 2\nrand 1 7\njump 1\nfunc\nrand 1 5\nemit 1\nsend 0 1\njump 0",
		draws: slices.Concat(picks(1, 3), []record.Record{pick(0), pick(0), victim(0), pick(1), which(1), pick(0), number(4), pick(1), number(6), pick(2), pick(0), pick(1), pick(1), which(0)}),
		below: []int{3, 3, 3, 3, 3, 2, 3, 2, 3, 5, 3, 7, 3, 3, 3, 3, 2},
		steps: []int{0, 1, 2, 3, 4, 4, 5, 5, 6, 6, 7, 7, 8, 9, 10, 11, 11},
	}
}

// told is what the tour has told behind so many steps.
func (e tour) told(steps int) []int64 {
	if steps > 9 {
		return []int64{4}
	}
	return nil
}

// P21.1, P21.2: a draw finds nothing, at a Pick, a Victim, a Case, a Rand: what was drawn ahead of it in its step is in the book, too.
func TestExhausted(t *testing.T) {
	e := theTour()
	for n := range e.draws {
		steps := e.steps[n]
		want := taper.Result{Status: taper.Exhausted, Steps: steps, Out: e.told(steps)}
		goes(t, fmt.Sprintf("behind %d draws", n), e.text, two, e.draws[:n], 99, want, n)
		goes(t, fmt.Sprintf("behind %d draws, one step more", n), e.text, two, e.draws[:n], steps+1, want, n)
		// As many steps as may be, so that the draw isn't asked for.
		ahead := n
		for ahead > 0 && e.steps[ahead-1] == steps {
			ahead--
		}
		want.Status = taper.Limit
		goes(t, fmt.Sprintf("behind %d draws, no step more", n), e.text, two, e.draws[:n], steps, want, ahead)
	}
	goes(t, "behind all", e.text, two, e.draws, 99, taper.Result{Status: taper.Exhausted, Steps: 12, Out: e.told(12)}, len(e.draws))
}

// P21.1, P21.2: another decision stands there: of another kind, the first that is too great, or one far above: which one, what was asked, what stands there; what was drawn ahead of it is in the book, as far as it was written: it isn't flushed.
func TestStrayed(t *testing.T) {
	e := theTour()
	p := program(t, e.text)
	for n, r := range e.draws {
		steps := e.steps[n]
		want := taper.Result{Status: taper.Strayed, Steps: steps, Out: e.told(steps), Sums: sums(t, p, two, e.draws, steps)}
		for kind := record.Pick; kind <= record.Rand; kind++ {
			for _, m := range []uint64{0, uint64(e.below[n]), record.MostN} {
				if kind == r.Kind && m == 0 {
					continue
				}
				got := record.Record{Kind: kind, N: m}
				want.Where = source.Unlike{At: n, Kind: r.Kind, N: e.below[n], Got: got}
				strays(t, fmt.Sprintf("draw %d is %+v", n, got), e, got, want)
			}
		}
	}
}

// strays holds runs whose decision at a place is another against what they must tell.
func strays(t *testing.T, name string, e tour, got record.Record, want taper.Result) {
	t.Helper()
	p, n := program(t, e.text), want.Where.At
	draws := slices.Concat(e.draws[:n], []record.Record{got}, e.draws[n:])
	for _, size := range []int{1, 2, 5, 400} {
		runners := map[string]*taper.Runner{
			"tape":  taper.Start(p, two, source.Tape(draws)),
			"chain": taper.Start(p, two, source.Chain(draws[:n+1], numbers(e.draws[n:]))),
		}
		for how, r := range runners {
			b, s := opened(10000, size)
			tells(t, name+", "+how, r.Run(99, b), want)
			has(t, name+", "+how, s, draws[:n-n%size])
			if b.Sure() != n-n%size {
				t.Errorf("%s, %s: %d sure", name, how, b.Sure())
			}
		}
		b, s := opened(10000, size)
		tells(t, name+", gone on", taper.Resume(p, two, draws, []uint64{1, 2, 3}).Run(99, b), want)
		has(t, name+", gone on", s, nil)
	}
	tells(t, name+", without a book", taper.Start(p, two, source.Tape(draws)).Run(99, nil), want)
	want.Status, want.Where = taper.Limit, source.Unlike{}
	tells(t, name+", no step more", taper.Start(p, two, source.Tape(draws)).Run(want.Steps, nil), want)
}

// P21.1: a runner that no call made has nobody, and one by a source that no call made no draws: both answer.
func TestMadeByNoCall(t *testing.T) {
	var r taper.Runner
	b, s := opened(100, 1)
	for _, most := range []int{-1, 0, 9} {
		tells(t, "a zero runner", r.Run(most, b), taper.Result{Status: taper.Deadlock})
		tells(t, "a zero runner", r.Run(most, nil), taper.Result{Status: taper.Deadlock})
	}
	if r.Sched() == nil || r.Sched().Steps() != 0 || r.Sched().Status() != sched.Deadlock {
		t.Errorf("a zero runner: %+v", r.Sched())
	}
	p := program(t, "func\nreturn 0")
	tells(t, "a zero source", taper.Start(p, one, &source.Source{}).Run(9, b), taper.Result{Status: taper.Exhausted})
	has(t, "a zero source", s, nil)
	if b.Sure() != 0 {
		t.Errorf("%d sure", b.Sure())
	}
}

// P21.1: its scheduler: at first at no step, then the one that did the steps, always the same one.
func TestSched(t *testing.T) {
	e := theTour()
	p := program(t, e.text)
	for _, w := range ways(p, two, e.draws) {
		s := w.runner.Sched()
		if s.Steps() != 0 || s.Status() != sched.Going || len(s.Processors()) != 2 || len(s.Machines()) != 2 || len(s.Global()) != 1 {
			t.Errorf("%s: at first %d steps, status %d", w.name, s.Steps(), s.Status())
		}
		for most := range 5 {
			before := s.Steps()
			x := w.runner.Run(most, nil)
			if s.Steps() != min(before+most, 12) || x.Steps != s.Steps() || w.runner.Sched() != s {
				t.Errorf("%s: %d steps behind %d, of which %d are told", w.name, s.Steps(), before, x.Steps)
			}
		}
	}
}
