package taper_test

import (
	"fmt"
	"slices"
	"testing"

	"shunter/api"
	"shunter/logbook"
	"shunter/record"
	"shunter/sched"
	"shunter/source"
	"shunter/taper"
)

// P21.1: one decision a step, so many a segment, and a store for so many bytes: the step whose decision fills the segment that has no room is done, and is the last one.
func TestBrokenAtAnAdd(t *testing.T) {
	const frame = 8 // a segment's bytes beside its body
	p, c := program(t, "func\nemit 0\njump 0"), sched.Config{P: 1, M: 1, Ring: 2, Slice: 99}
	for _, size := range []int{1, 2, 3, 7} {
		for room := range 80 {
			whole := room / (frame + size)
			steps := (whole + 1) * size
			b, s := opened(room, size)
			x := taper.Record(p, c, make([]uint64, 200), 200, b)
			name := fmt.Sprintf("%d a segment, %d bytes", size, room)
			tells(t, name, x, taper.Result{Status: taper.Broken, Steps: steps, Out: make([]int64, max(steps-1, 0)/2), Sums: sums(t, p, c, picks(0, steps), steps), Err: api.ErrFull})
			has(t, name, s, picks(0, whole*size))
			if b.Sure() != whole*size {
				t.Errorf("%s: %d sure", name, b.Sure())
			}
		}
	}
}

// P21.1: the power is cut behind any number of calls of the store, of which each segment takes two: the step at which it was missed is the last one, or the run was over.
func TestPowerCut(t *testing.T) {
	const steps = 12
	p := program(t, "func\njump 0")
	for _, size := range []int{1, 2, 3, 5, 12, 13, 400} {
		segments := (steps + size - 1) / size
		for n := range 2*segments + 3 {
			b, s := opened(1000, size)
			s.Arm(n)
			name := fmt.Sprintf("%d a segment, cut behind %d", size, n)
			got := taper.Record(p, one, make([]uint64, 99), steps, b)
			whole := min(n/2, segments)
			want := taper.Result{Status: taper.Broken, Steps: min((whole+1)*size, steps), Err: api.ErrCut}
			if whole == segments {
				want = taper.Result{Status: taper.Limit, Steps: steps}
			}
			want.Sums = sums(t, p, one, picks(0, want.Steps), want.Steps)
			tells(t, name, got, want)
			if sure := min(whole*size, steps); b.Sure() != sure || s.Dead() != (whole < segments) {
				t.Errorf("%s: %d sure, not %d", name, b.Sure(), sure)
			}
		}
	}
}

// P21.1: what is wrong with the book at last is told whatever ended the steps, and beside it no trap; so it is at an Add of the last step.
func TestBrokenAtTheEnd(t *testing.T) {
	for _, x := range []struct {
		text  string
		draws []record.Record
		most  int
		steps int
	}{
		{"func\nreturn 0", picks(0, 3), 99, 3},
		{"func\ntrap 9", picks(0, 3), 99, 3},
		{"chan 0\nfunc\nrecv 0 1 2", picks(0, 3), 99, 3},
		{"func\njump 0", picks(0, 3), 3, 3},
		{"func\njump 0", picks(0, 3), 99, 3},
		{"func\njump 0", []record.Record{pick(0), pick(0), pick(1), pick(1)}, 99, 3}, // no Victim
	} {
		p := program(t, x.text)
		want := taper.Result{Status: taper.Broken, Steps: x.steps, Sums: sums(t, p, two, x.draws, x.steps), Err: api.ErrFull}
		for how, size := range map[string]int{"at last": 9, "at an Add": len(x.draws)} {
			b, s := opened(10, size)
			tells(t, x.text+", "+how, taper.Record(p, two, numbers(x.draws), x.most, b), want)
			has(t, x.text, s, nil)
			if b.Sure() != 0 {
				t.Errorf("%q, %s: %d sure", x.text, how, b.Sure())
			}
		}
	}
}

// P21.1: of several decisions of a step those behind the one that couldn't be written aren't added; of a step whose draw strays nothing is told but that.
func TestBrokenAmongSeveral(t *testing.T) {
	p := program(t, "func\nrand 1 3\njump 0")
	draws := []record.Record{pick(0), pick(0), pick(0), number(2), pick(0), pick(0), number(1), pick(0), pick(0), number(0)}
	for size := 1; size <= 8; size++ {
		steps := []int{1, 2, 3, 3, 4, 5, 5, 6}[size-1]
		b, _ := opened(3, size)
		tells(t, fmt.Sprint(size, " a segment"), taper.Start(p, one, source.Tape(draws)).Run(99, b), taper.Result{Status: taper.Broken, Steps: steps, Sums: sums(t, p, one, draws, steps), Err: api.ErrFull})
		if b.Waiting() != size {
			t.Errorf("%d a segment: %d wait", size, b.Waiting())
		}
	}
	stray := slices.Concat(draws[:3], picks(0, 1))
	b, _ := opened(3, 3)
	tells(t, "ahead of it", taper.Start(p, one, source.Tape(stray)).Run(99, b), taper.Result{Status: taper.Broken, Steps: 2, Sums: sums(t, p, one, draws, 2), Err: api.ErrFull})
}

// P21.1: a book that no call made has no room, and what it can't write is told.
func TestBookMadeByNoCall(t *testing.T) {
	p := program(t, "func\nreturn 0")
	tells(t, "a zero book", taper.Record(p, one, make([]uint64, 9), 9, &logbook.Book{}), taper.Result{Status: taper.Broken, Steps: 1, Sums: sums(t, p, one, picks(0, 1), 1), Err: api.ErrFull})
	tells(t, "a zero book, nothing to write", taper.Record(p, one, make([]uint64, 9), 0, &logbook.Book{}), taper.Result{Status: taper.Limit})
}

// P21.1, P21.2: a book has decisions already, some of which wait: what is drawn comes behind them, and at last all are written, also where there is no step.
func TestBookThatHasSome(t *testing.T) {
	p := program(t, "func\njump 0")
	there := []record.Record{number(5), which(6), victim(7)}
	for most := range 5 {
		b, s := opened(1000, 2)
		for _, r := range there {
			b.Add(r)
		}
		tells(t, "some are there", taper.Record(p, one, make([]uint64, 9), most, b), taper.Result{Status: taper.Limit, Steps: most, Sums: sums(t, p, one, picks(0, most), most)})
		has(t, "some are there", s, slices.Concat(there, picks(0, most)))
	}
	b, s := opened(1000, 2)
	b.Add(number(5))
	s.Arm(0)
	tells(t, "one waits", taper.Record(p, one, nil, 0, b), taper.Result{Status: taper.Broken, Err: api.ErrCut})
}

// P21.1, P21.2: behind each step its decisions are in the book, and not ahead of it: whoever watches the draws sees how many there are; and Run lets them watch.
func TestBehindEachStep(t *testing.T) {
	e := theTour()
	p := program(t, e.text)
	for _, size := range []int{1, 2, 3, 5, 400} {
		tape := source.Tape(e.draws)
		b, s := opened(1000, size)
		r := taper.Start(p, two, tape)
		seen := 0
		tape.Watch(func(got record.Record) {
			ahead := slices.Index(e.steps, e.steps[seen]) // how many were drawn by the steps ahead of this one
			if got != e.draws[seen] || b.Sure()+b.Waiting() != ahead || b.Waiting() != ahead%size || r.Sched().Steps() != e.steps[seen] {
				t.Errorf("%d a segment, draw %d, %+v: %d are sure, %d wait, not %d", size, seen, got, b.Sure(), b.Waiting(), ahead)
			}
			seen++
		})
		for range 4 {
			r.Run(99, b)
		}
		if seen != len(e.draws) {
			t.Errorf("%d a segment: %d draws were seen", size, seen)
		}
		has(t, "watched", s, e.draws)
	}
}

// P21.2: whoever watches a source, since before Start, since then, or not any more: the book has what was drawn.
func TestSourceThatOthersWatch(t *testing.T) {
	e := theTour()
	p := program(t, e.text)
	see := func(record.Record) {}
	for i, watch := range []func(record.Record){nil, see} {
		for j, later := range []func(record.Record){nil, see} {
			tape := source.Tape(e.draws)
			tape.Watch(watch)
			r := taper.Start(p, two, tape)
			tape.Watch(later)
			b, s := opened(1000, 4)
			r.Run(5, b)
			tape.Watch(watch)
			r.Run(99, b)
			has(t, fmt.Sprint("watched ", i, j), s, e.draws)
		}
	}
}

// P21.2: a source that answered draws ahead of Start: these are none of the run.
func TestSourceThatWasDrawn(t *testing.T) {
	p := program(t, "func\nrand 1 9\nreturn 0")
	run := []record.Record{pick(0), pick(0), pick(0), number(8), pick(0)}
	for ahead := range 5 {
		tape := source.Tape(slices.Concat(slices.Repeat([]record.Record{number(3)}, ahead), run))
		for range ahead {
			tape.Draw(record.Rand, 4)
		}
		r := taper.Start(p, one, tape)
		b, s := opened(1000, 2)
		tells(t, "drawn ahead", r.Run(99, b), taper.Result{Status: taper.Halted, Steps: 4, Sums: sums(t, p, one, run, 4)})
		has(t, "drawn ahead", s, run)
	}
	// Where it strays is told by the place among all that the source has.
	tape := source.Tape([]record.Record{number(3), pick(0), pick(2)})
	tape.Draw(record.Rand, 4)
	x := taper.Start(p, one, tape).Run(99, nil)
	tells(t, "drawn ahead, strayed", x, taper.Result{Status: taper.Strayed, Steps: 1, Sums: sums(t, p, one, run, 1), Where: source.Unlike{At: 2, Kind: record.Pick, N: 2, Got: pick(2)}})
}

// P21.2: behind any crash the log has the first of the decisions that were drawn, those that were sure among them.
func TestCrash(t *testing.T) {
	e := theTour()
	p := program(t, e.text)
	for _, size := range []int{1, 2, 3, 7} {
		for n := range 40 {
			for keep := range 14 {
				b, s := opened(1000, size)
				s.Arm(n)
				taper.Record(p, two, numbers(e.draws), 99, b)
				s.Crash(keep, "")
				l, _, _ := logbook.Read(s.Bytes())
				if len(l) < b.Sure() || len(l) > len(e.draws) || !slices.Equal(l, e.draws[:len(l)]) {
					t.Fatalf("%d a segment, cut behind %d, %d bytes stay: %v, %d were sure", size, n, keep, l, b.Sure())
				}
			}
		}
	}
}
