package trace_test

import (
	"errors"
	"fmt"
	"slices"
	"testing"

	"shunter/record"
	"shunter/sched"
	"shunter/source"
	"shunter/trace"
)

// ending is a run with each kind of draw, of which any may be the last one.
type ending struct {
	c     sched.Config
	text  string
	draws []record.Record
	below []int // of each draw
	steps []int // the step of each draw
}

func endings() ending {
	return ending{
		c:     two,
		text:  "chan 9\nchan 9\nsend 0 1\nsend 1 1\nfunc\nspawn 1 0 2\nselect 0 2 2\nrand 1 7\njump 1\nfunc\nrand 1 5\nsend 0 1\njump 0",
		draws: slices.Concat(picks(1, 3), []record.Record{pick(0), pick(0), victim(0), pick(1), which(1), pick(0), number(4), pick(1), number(6), pick(2), pick(0), pick(1), pick(1), which(0)}),
		below: []int{3, 3, 3, 3, 3, 2, 3, 2, 3, 5, 3, 7, 3, 3, 3, 3, 2},
		steps: []int{0, 1, 2, 3, 4, 4, 5, 5, 6, 6, 7, 7, 8, 9, 10, 11, 11},
	}
}

// moves are those of the first steps, and which these are.
func (e ending) moves(steps int) ([]trace.Move, []int) {
	all := []trace.Move{by(0, 0), by(0, 1), by(1, 4), by(0, 6), tick, by(1, 0), by(0, 0), by(0, 0)}
	at := []int{2, 5, 6, 7, 8, 9, 10, 11}
	n, _ := slices.BinarySearch(at, steps)
	return all[:n], at[:n]
}

// run holds a Run of some draws against what it must tell: the trace up to a step.
func (e ending) run(t *testing.T, name string, draws []record.Record, steps, end int, where source.Unlike) {
	t.Helper()
	s, tape, p := start(t, e.c, e.text, draws)
	x := runs(s, tape, 99)
	moves, at := e.moves(steps)
	tells(t, name, x, end, where, at, moves...)
	if len(x.seen) != steps || s.Steps() != steps || s.Status() != sched.Going {
		t.Errorf("%s: %d seen, %d steps, not %d; status %d", name, len(x.seen), s.Steps(), steps, s.Status())
	}
	follows(t, name, p, x.trace.Moves, s)
	// Nothing watches: what is drawn now is taken, and comes to no trace.
	kept := fmt.Sprint(x.trace)
	for tape.Left() > 0 {
		r := draws[len(draws)-tape.Left()]
		tape.Draw(r.Kind, int(r.N)+1)
	}
	if got := fmt.Sprint(x.trace); got != kept {
		t.Errorf("%s: the trace became %s, not %s", name, got, kept)
	}
}

// P20.1: a draw finds nothing, at a Pick, a Victim, a Case, a Rand: the trace up to its step.
func TestSpent(t *testing.T) {
	e := endings()
	for n := range e.draws {
		e.run(t, fmt.Sprintf("behind %d draws", n), e.draws[:n], e.steps[n], source.Spent, source.Unlike{})
	}
	e.run(t, "behind all", e.draws, 12, source.Spent, source.Unlike{})
}

// P20.1: another decision stands there: of another kind, the first that is too great, or one far above.
func TestStrayed(t *testing.T) {
	e := endings()
	for n, r := range e.draws {
		for kind := record.Pick; kind <= record.Rand; kind++ {
			for _, number := range []uint64{0, uint64(e.below[n]), record.MostN} {
				got := record.Record{Kind: kind, N: number}
				if kind == r.Kind && number == 0 {
					continue
				}
				draws := slices.Concat(e.draws[:n], []record.Record{got}, e.draws[n:])
				e.run(t, fmt.Sprintf("draw %d is %+v", n, got), draws, e.steps[n], source.Strayed, source.Unlike{At: n, Kind: r.Kind, N: e.below[n], Got: got})
			}
		}
	}
}

// P20.1: a Run behind one whose draws ended tells anew how they end, and nothing that was told ahead of it.
func TestRunAgainBehindTheEnd(t *testing.T) {
	e := endings()
	s, tape, _ := start(t, e.c, e.text, e.draws[:7])
	runs(s, tape, 99)
	x := runs(s, tape, 99)
	tells(t, "once more", x, source.Spent, source.Unlike{}, nil)
	if len(x.seen) != 0 || s.Steps() != 5 {
		t.Errorf("seen %q, %d steps", x.seen, s.Steps())
	}
	well(t, "at most 0", runs(s, tape, 0), nil)
}

// watched is a tape of picks that somebody watches, and a scheduler of one that does nothing for ever.
func watched(t *testing.T, many int) (*sched.Sched, *source.Source, *int) {
	t.Helper()
	s, tape, _ := start(t, one, "func\njump 0", picks(0, many))
	seen := 0
	tape.Watch(func(record.Record) { seen++ })
	return s, tape, &seen
}

// P20.1: behind Run nothing watches the draws, however it ended, and however many steps it did; who watched ahead of it sees nothing of it, either.
func TestNothingWatches(t *testing.T) {
	for _, most := range []int{-1, 0, 1, 5, 20, 21} {
		s, tape, seen := watched(t, 20)
		trace.Run(s, tape, most, nil)
		for tape.Left() > 0 {
			tape.Draw(record.Pick, 1)
		}
		if *seen != 0 {
			t.Errorf("most %d: %d draws were seen", most, *seen)
		}
	}
	s, tape, seen := watched(t, 20)
	tape.Draw(record.Pick, 1)
	s.Step()
	trace.Run(s, tape, 4, func(sched.Event) {
		tape.Watch(func(record.Record) { *seen += 100 })
	})
	tape.Draw(record.Pick, 1)
	if *seen != 2 {
		t.Errorf("seen: %d", *seen)
	}
	over, tape, _ := start(t, one, "func\nreturn 0", picks(0, 4))
	trace.Run(over, tape, 9, nil)
	tape.Watch(func(record.Record) { t.Error("a draw is seen") })
	trace.Run(over, tape, 9, nil)
	tape.Draw(record.Pick, 1)
}

// P20.1: whatever see does with the draws, each move has what its instruction drew.
func TestSeeThatDrawsAndWatches(t *testing.T) {
	sees := []record.Record{number(8), number(7)}
	s, tape, p := start(t, one, "func\nrand 1 9\nnop\nrand 1 9\nreturn 0",
		picks(0, 1), sees, picks(0, 1), sees, picks(0, 1), []record.Record{number(3)}, sees, picks(0, 1), sees, picks(0, 1), []record.Record{number(5)}, sees, picks(0, 1), sees)
	seen := 0
	tr, end, where := trace.Run(s, tape, 99, func(sched.Event) {
		tape.Draw(record.Rand, 9)
		tape.Watch(func(record.Record) { seen++ })
		tape.Draw(record.Rand, 9)
	})
	well(t, "see draws", ran{trace: tr, end: end, where: where}, []int{2, 3, 4, 5}, by(0, 3), by(0, 0), by(0, 5), by(0, 0))
	if seen != 6 || tape.Left() != 0 {
		t.Errorf("seen: %d, left: %d", seen, tape.Left())
	}
	follows(t, "see draws", p, tr.Moves, s)
}

// P20.1: whatever see panics with, but what Guard tells, Run does; and nothing watches.
func TestSeeThatPanics(t *testing.T) {
	for _, answer := range []any{"seen", 7, errors.New("seen"), record.Record{}} {
		for at := range 6 {
			s, tape, _ := watched(t, 20)
			got := caught(func() {
				trace.Run(s, tape, 99, func(sched.Event) {
					if s.Steps() > at {
						panic(answer)
					}
				})
			})
			if got != answer || s.Steps() != at+1 || tape.Left() != 20-at-1 {
				t.Errorf("panic %v, not %v, behind %d steps, not %d", got, answer, s.Steps(), at+1)
			}
			x := runs(s, tape, 3)
			if end := x.trace.Steps; len(end) == 0 || end[len(end)-1] != at+3 {
				t.Errorf("the next Run: %+v", x.trace)
			}
		}
	}
}

// P20.1: a see whose own draw finds nothing: the draws ended so; its step was done, and is in the trace.
func TestSeeWhoseDrawEnds(t *testing.T) {
	s, tape, _ := start(t, one, "func\nnop\nnop\nnop", picks(0, 4))
	tr, end, where := trace.Run(s, tape, 99, func(sched.Event) {
		if s.Steps() == 4 {
			tape.Draw(record.Rand, 9)
		}
	})
	tells(t, "spent", ran{trace: tr, end: end, where: where}, source.Spent, source.Unlike{}, []int{2, 3}, by(0, 0), by(0, 0))
}
