package trace_test

import (
	"fmt"
	"math"
	"slices"
	"testing"

	"shunter/code"
	"shunter/record"
	"shunter/sched"
	"shunter/source"
	"shunter/trace"
	"shunter/world"
)

// The clock's move.
var tick = trace.Move{Tick: true, G: -1}

// by is an instruction of a goroutine, by a draw.
func by(g, draw int) trace.Move { return trace.Move{G: g, Draw: draw} }

// start is a scheduler that draws just these decisions.
func start(t *testing.T, c sched.Config, text string, draws ...[]record.Record) (*sched.Sched, *source.Source, code.Program) {
	t.Helper()
	p, tape := program(t, text), source.Tape(slices.Concat(draws...))
	return sched.New(p, c, tape), tape, p
}

// tells holds what a Run told against what it must.
func tells(t *testing.T, name string, x ran, end int, where source.Unlike, steps []int, moves ...trace.Move) {
	t.Helper()
	if !slices.Equal(x.trace.Moves, moves) || !slices.Equal(x.trace.Steps, steps) {
		t.Errorf("%s: %+v, not %+v, at %v", name, x.trace, moves, steps)
	}
	if x.end != end || x.where != where {
		t.Errorf("%s: the draws ended %d, %+v, not %d, %+v", name, x.end, x.where, end, where)
	}
}

// well: of a Run whose draws were enough.
func well(t *testing.T, name string, x ran, steps []int, moves ...trace.Move) {
	t.Helper()
	tells(t, name, x, source.Well, source.Unlike{}, steps, moves...)
}

var (
	one = sched.Config{P: 1, M: 1, Ring: 2, Slice: 9}
	two = sched.Config{P: 2, M: 2, Ring: 4, Slice: 9}
)

// P20.1: the document's example: Held and Found are no moves.
func TestOneThatTells(t *testing.T) {
	s, draws, p := start(t, one, "func\nemit 0\nreturn 0", picks(0, 4))
	x := runs(s, draws, 9)
	well(t, "one that tells", x, []int{2, 3}, by(0, 0), by(0, 0))
	if len(x.seen) != 4 || s.Status() != sched.Halted || draws.Left() != 0 {
		t.Errorf("seen: %q, status %d, %d left", x.seen, s.Status(), draws.Left())
	}
	follows(t, "one that tells", p, x.trace.Moves, s)
}

// P20.1: at most so many steps, whatever they are; the next Run goes on, and its steps with it.
func TestMost(t *testing.T) {
	const text = "func\nrand 1 9\nemit 1\nyield\nreturn 1"
	tape := slices.Concat(picks(0, 2), []record.Record{pick(0), number(4), pick(1)}, picks(0, 4))
	moves, at := []trace.Move{by(0, 4), tick, by(0, 0), by(0, 0), by(0, 0)}, []int{2, 3, 4, 5, 7}
	for most, many := range []int{0, 0, 0, 1, 2, 3, 4, 4, 5, 5, 5} {
		s, draws, _ := start(t, one, text, tape)
		x := runs(s, draws, most)
		well(t, fmt.Sprint("most ", most), x, at[:many], moves[:many]...)
		if n := min(most, 8); s.Steps() != n || len(x.seen) != n {
			t.Errorf("most %d: %d steps, %d seen", most, s.Steps(), len(x.seen))
		}
		well(t, fmt.Sprint("behind ", most), runs(s, draws, 100), at[many:], moves[many:]...)
		if s.Steps() != 8 || s.Status() != sched.Halted {
			t.Errorf("behind %d: %d steps, status %d", most, s.Steps(), s.Status())
		}
	}
	for _, most := range []int{-1, -2, math.MinInt32, math.MinInt} {
		s, draws, _ := start(t, one, text, tape)
		if x := runs(s, draws, most); s.Steps() != 0 || draws.Left() != len(tape) || len(x.seen) != 0 {
			t.Errorf("most %d: %d steps", most, s.Steps())
		} else {
			well(t, "below 0", x, nil)
		}
	}
	s, draws, _ := start(t, one, text, tape)
	well(t, "as many as can be", runs(s, draws, math.MaxInt), at, moves...)
}

// P20.1: steps of each kind; those that are Ticked or Ran are moves, no others.
func TestEachKind(t *testing.T) {
	text := "func\nspawn 1 0 1\nspawn 1 0 1\nconst 2 1\nsleep 2\njump 2\nfunc\njump 0"
	kinds := []int{sched.Held, sched.Found, sched.Ran, sched.Ran, sched.Held, sched.Idle, sched.Ticked, sched.Stole, sched.Ran, sched.Ran, sched.Ran, sched.Found, sched.Ran, sched.Ticked}
	s, draws, p := start(t, sched.Config{P: 2, M: 3, Ring: 4, Slice: 9}, text,
		picks(0, 4), picks(1, 1), picks(2, 1), picks(3, 1), []record.Record{pick(1), victim(0)}, picks(1, 1), picks(0, 2), picks(0, 1), picks(0, 1), picks(3, 1), picks(2, 1))
	var got []int
	tr, end, where := trace.Run(s, draws, 14, func(e sched.Event) {
		if got = append(got, e.Kind); len(got) != s.Steps() {
			t.Errorf("seen behind %d steps: %v", s.Steps(), got)
		}
	})
	well(t, "each kind", ran{trace: tr, end: end, where: where}, []int{2, 3, 6, 8, 9, 10, 12, 13}, by(0, 0), by(0, 0), tick, by(1, 0), by(0, 0), by(0, 0), by(2, 0), tick)
	if !slices.Equal(got, kinds) {
		t.Errorf("seen: %v, not %v", got, kinds)
	}
	follows(t, "each kind", p, tr.Moves, s)
}

// P20.1: a step that finds nobody is seen, and is no move.
func TestParked(t *testing.T) {
	s, draws, _ := start(t, two, "func\nconst 1 1\nsleep 1\nreturn 0", picks(0, 4), []record.Record{pick(0), victim(1), pick(2)}, picks(1, 3))
	x := runs(s, draws, 99)
	well(t, "parked", x, []int{2, 3, 5, 8}, by(0, 0), by(0, 0), tick, by(0, 0))
	if want := fmt.Sprintf("5 %+v", sched.Event{Kind: sched.Parked, M: 0, G: -1}); len(x.seen) != 9 || x.seen[4] != want {
		t.Errorf("seen: %q", x.seen)
	}
}

// P20.1: what an instruction drew: a Case, a Rand; 0 where it drew nothing, also behind one that drew, and where the step drew a Pick, or a Victim.
func TestDraws(t *testing.T) {
	text := "chan 9\nchan 9\nsend 0 0\nsend 0 0\nsend 0 0\nrecv 1 2\nfunc\nspawn 1 0 1\nselect 0 4 3\nnop\nrand 1 1000\nnop\nselect 0 1 3\nrand 1 1\nyield\nselect 3 1 1\nfunc\nrand 1 5\njump 0"
	s, draws, p := start(t, two, text,
		picks(1, 3),
		[]record.Record{pick(1), which(2), pick(1), pick(1), number(999), pick(1), pick(1), which(0)},
		picks(0, 1), []record.Record{pick(0), victim(0), pick(0), number(3)},
		[]record.Record{pick(1), number(0), pick(0), pick(1), pick(2), pick(1), pick(1)})
	x := runs(s, draws, 99)
	tells(t, "draws", x, source.Spent, source.Unlike{},
		[]int{2, 3, 4, 5, 6, 7, 10, 11, 12, 13, 14, 16},
		by(0, 0), by(0, 2), by(0, 0), by(0, 999), by(0, 0), by(0, 0), by(1, 3), by(0, 0), by(1, 0), by(0, 0), tick, by(0, 0))
	if s.World().Status(0) != world.Waiting {
		t.Errorf("goroutine 0: %d", s.World().Status(0))
	}
	follows(t, "draws", p, x.trace.Moves, s)
}

// P20.1: the greatest number that can be drawn.
func TestTheGreatestDraw(t *testing.T) {
	s, draws, p := start(t, one, "func\nrand 1 1099511627775\nemit 1\nreturn 1", picks(0, 3), []record.Record{number(1<<40 - 2)}, picks(0, 2))
	x := runs(s, draws, 9)
	well(t, "the greatest", x, []int{2, 3, 4}, by(0, 1<<40-2), by(0, 0), by(0, 0))
	follows(t, "the greatest", p, x.trace.Moves, s)
}

// P20.1: a scheduler that has done steps before: each move is told by which of all of its steps it was.
func TestStepsBefore(t *testing.T) {
	text := "func\nrand 1 9\nrand 1 9\nrand 1 9\nreturn 1"
	for before := range 6 {
		s, draws, _ := start(t, one, text, picks(0, 3), []record.Record{number(5), pick(0), number(6), pick(0), number(7), pick(0)})
		for range before {
			s.Step()
		}
		first := max(before-2, 0)
		x := runs(s, draws, 99)
		well(t, fmt.Sprint(before, " steps before"), x, []int{2, 3, 4, 5}[first:], []trace.Move{by(0, 5), by(0, 6), by(0, 7), by(0, 0)}[first:]...)
		if len(x.seen) != 6-before {
			t.Errorf("%d steps before: %d seen", before, len(x.seen))
		}
	}
}

// P20.1: a scheduler that doesn't go does nothing, and draws nothing.
func TestOneThatDoesNotGo(t *testing.T) {
	for status, text := range map[int]string{sched.Halted: "func\nreturn 0", sched.Trapped: "func\ntrap 4", sched.Deadlock: "chan 0\nfunc\nsend 0 1"} {
		s, draws, p := start(t, one, text, picks(0, 9))
		first := runs(s, draws, 99)
		well(t, text, first, []int{2}, by(0, 0))
		follows(t, text, p, first.trace.Moves, s)
		for _, most := range []int{-1, 0, 1, 99} {
			if x := runs(s, draws, most); len(x.seen) > 0 || s.Status() != status || s.Steps() != 3 || draws.Left() != 6 {
				t.Errorf("%q: seen %q, status %d, %d steps, %d left", text, x.seen, s.Status(), s.Steps(), draws.Left())
			} else {
				well(t, text, x, nil)
			}
		}
	}
}

// P20.1: nobody has to see it.
func TestNilSee(t *testing.T) {
	s, draws, p := start(t, one, "func\nrand 1 9\nreturn 1", picks(0, 3), []record.Record{number(5), pick(1), pick(0)})
	tr, end, where := trace.Run(s, draws, 99, nil)
	well(t, "nil", ran{trace: tr, end: end, where: where}, []int{2, 3, 4}, by(0, 5), tick, by(0, 0))
	follows(t, "nil", p, tr.Moves, s)
}

// K3: what a Run told stays as it is, whatever comes later, and shares nothing with what another one told.
func TestTracesStay(t *testing.T) {
	s, draws, _ := start(t, one, "func\nnop\njump 0", picks(0, 90))
	var all []trace.Trace
	var texts []string
	for range 9 {
		x := runs(s, draws, 7)
		all, texts = append(all, x.trace), append(texts, fmt.Sprint(x.trace))
	}
	for i := range all {
		if got := fmt.Sprint(all[i]); got != texts[i] {
			t.Errorf("run %d became %s, not %s", i, got, texts[i])
		}
		clear(all[i].Moves[:cap(all[i].Moves)])
		clear(all[i].Steps[:cap(all[i].Steps)])
	}
}
