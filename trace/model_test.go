package trace_test

import (
	"fmt"
	"slices"
	"testing"

	"shunter/api"
	"shunter/asm"
	"shunter/code"
	"shunter/record"
	"shunter/sched"
	"shunter/snap"
	"shunter/source"
	"shunter/trace"
)

func pick(n uint64) record.Record   { return record.Record{Kind: record.Pick, N: n} }
func victim(n uint64) record.Record { return record.Record{Kind: record.Victim, N: n} }
func which(n uint64) record.Record  { return record.Record{Kind: record.Case, N: n} }
func number(n uint64) record.Record { return record.Record{Kind: record.Rand, N: n} }

// picks are so many of the same.
func picks(n uint64, times int) []record.Record {
	return slices.Repeat([]record.Record{pick(n)}, times)
}

// program is a text's.
func program(t *testing.T, text string) code.Program {
	t.Helper()
	p, line, err := asm.Parse(text)
	if err != api.OK {
		t.Fatalf("%q: line %d, error %d", text, line, err)
	}
	return p
}

// ran is what a Run told, and what was seen.
type ran struct {
	trace trace.Trace
	end   int
	where source.Unlike
	seen  []string
}

// runs is what Run does.
func runs(s *sched.Sched, draws *source.Source, most int) ran {
	var x ran
	x.trace, x.end, x.where = trace.Run(s, draws, most, func(e sched.Event) {
		x.seen = append(x.seen, fmt.Sprintf("%d %+v", s.Steps(), e))
	})
	return x
}

// model is what Run should do: what a step drew is whatever the source has taken since.
func model(s *sched.Sched, draws *source.Source, most int) ran {
	var x ran
	for n := 0; n < most && s.Status() == 0; n++ {
		at, taken := s.Steps(), len(draws.Taken())
		var e sched.Event
		switch p := caught(func() { e = s.Step() }).(type) {
		case source.Dry:
			x.end = 1
			return x
		case source.Unlike:
			x.end, x.where = 2, p
			return x
		}
		x.seen = append(x.seen, fmt.Sprintf("%d %+v", s.Steps(), e))
		if e.Kind == 1 {
			x.trace.Moves = append(x.trace.Moves, trace.Move{Tick: true, G: -1})
			x.trace.Steps = append(x.trace.Steps, at)
		}
		if e.Kind == 7 {
			m := trace.Move{G: e.G}
			if l := draws.Taken()[taken:]; len(l) > 1 { // the first one is the step's
				m.Draw = int(l[1].N)
			}
			x.trace.Moves = append(x.trace.Moves, m)
			x.trace.Steps = append(x.trace.Steps, at)
		}
	}
	return x
}

// caught is what run panicked with; nil: with nothing.
func caught(run func()) (x any) {
	defer func() { x = recover() }()
	run()
	return nil
}

// alike: is one as the other one?
func alike(a, b ran) bool {
	return slices.Equal(a.trace.Moves, b.trace.Moves) && slices.Equal(a.trace.Steps, b.trace.Steps) && a.end == b.end && a.where == b.where && slices.Equal(a.seen, b.seen)
}

// follows: P20.2: Follow makes all of a run's moves from the begin on, and comes to the world of its scheduler, by all that is shown.
func follows(t *testing.T, name string, p code.Program, moves []trace.Move, s *sched.Sched) {
	t.Helper()
	still := slices.Clone(moves)
	w, made := trace.Follow(p, moves)
	if made != len(moves) || !slices.Equal(moves, still) {
		t.Errorf("%s: Follow made %d of %d moves", name, made, len(moves))
	}
	if got, want := snap.World(w, len(p.Chans), p.Locks), snap.World(s.World(), len(p.Chans), p.Locks); !slices.Equal(got, want) || w.Stuck() != s.World().Stuck() {
		t.Errorf("%s: Follow came to %v, not %v", name, got, want)
	}
}
