package sched_test

import (
	"slices"
	"testing"

	"shunter/record"
	"shunter/sched"
	"shunter/source"
)

// place is a step with a draw that may panic: what comes ahead of it, its own draws, the last of which panics, below how many that is; what the step is, if none does.
type place struct {
	name  string
	c     sched.Config
	text  string
	ahead []record.Record
	draws []record.Record
	n     int
	kind  int
}

// places are steps with each kind of draw.
func places() []place {
	drawing := "chan 1\nchan 1\nrecv 0 1\nsend 1 2\nsend 0 3\nfunc\nspawn 1 0 1\nselect 0 3 4\nrand 5 40\nemit 5\njump 1\nfunc\nrecv 1 1 2\njump 0"
	thieves := "chan 1\nfunc\nspawn 1 0 1\nspawn 1 0 1\njump 2\nfunc\nrecv 0 1 2\njump 0"
	one4 := sched.Config{P: 1, M: 4, Ring: 2, Slice: 5}
	two := sched.Config{P: 2, M: 2, Ring: 2, Slice: 3}
	six := sched.Config{P: 6, M: 3, Ring: 2, Slice: 3}
	return []place{
		{"the first Pick", one4, drawing, nil, one(pick(3)), 5, sched.Held},
		{"the clock's Pick", one4, drawing, picks(0, 2), one(pick(4)), 5, sched.Ticked},
		{"a Pick of an instruction", one4, drawing, picks(2, 2), one(pick(2)), 5, sched.Ran},
		{"a Pick of one who looks", one4, drawing, picks(2, 1), one(pick(2)), 5, sched.Found},
		{"a Case, the first instruction that draws", one4, drawing, picks(2, 3), one(pick(2), which(1)), 2, sched.Ran},
		{"a Case, the last instruction of a turn", sched.Config{P: 1, M: 1, Ring: 2, Slice: 2}, drawing, picks(0, 3), one(pick(0), which(0)), 2, sched.Ran},
		{"a Case by which one can go on", two, drawing, by(picks(0, 2), picks(1, 1), picks(0, 1), one(pick(1), victim(0)), picks(1, 1)), one(pick(0), which(0)), 2, sched.Ran},
		{"a Rand", one4, drawing, by(picks(2, 3), one(pick(2), which(0))), one(pick(2), number(39)), 40, sched.Ran},
		{"a Victim, ahead of the first turn", two, thieves, by(picks(1, 1), picks(0, 4)), one(pick(1), victim(1)), 2, sched.Stole},
		{"a Victim, of several", six, thieves, by(picks(1, 1), picks(0, 4)), one(pick(1), victim(5)), 6, sched.Parked},
		{"a Victim, as some are left", two, thieves, by(picks(1, 1), picks(0, 4), one(pick(1), victim(1)), picks(1, 1)), one(pick(1), victim(1)), 2, sched.Stole},
		{"a Victim, where nobody is", two, thieves, by(picks(0, 2), picks(1, 1)), one(pick(1), victim(1)), 2, sched.Parked},
	}
}

// at is a scheduler that is just ahead of the step; its source has more draws behind.
func (p place) at(t *testing.T, more ...record.Record) *ride {
	t.Helper()
	x := start(t, p.c, p.text, by(p.ahead, more)...)
	for x.draws.Left() > len(more) {
		steps := x.Steps()
		x.Step()
		if x.whole(); x.Steps() != steps+1 {
			t.Fatalf("%s: it ends ahead of it", p.name)
		}
	}
	return x
}

// last is the draw that panics.
func (p place) last() record.Record {
	return p.draws[len(p.draws)-1]
}

// panics makes a Step that must panic with just that: it is none, and all but the source is as ahead of it.
func (x *ride) panics(name string, want any) {
	x.t.Helper()
	ahead, steps := show(x.Sched), x.Steps()
	if got := caught(func() { x.Step() }); got != want {
		x.t.Errorf("%s: panic %+v, not %+v", name, got, want)
	}
	if got := show(x.Sched); got != ahead || x.Steps() != steps || x.Status() != sched.Going {
		x.t.Errorf("%s: behind the panic %s\nnot %s", name, got, ahead)
	}
	x.whole()
}

// comesTo: the step is done at last, and comes to the same as where no draw panicked ahead of it.
func (x *ride) comesTo(p place) {
	x.t.Helper()
	still := p.at(x.t, p.draws...)
	want := still.step(len(p.draws))
	if got := x.step(len(p.draws)); got.Kind != p.kind || want.Kind != p.kind || got.M != want.M || got.G != want.G || !slices.Equal(got.Ready, want.Ready) || show(x.Sched) != show(still.Sched) {
		x.t.Errorf("%s: %+v, %s\nnot %+v, %s", p.name, got, show(x.Sched), want, show(still.Sched))
	}
}

// P18.1: there is no draw any more.
func TestDry(t *testing.T) {
	for _, p := range places() {
		x := p.at(t, p.draws[:len(p.draws)-1]...)
		for range 3 {
			x.panics(p.name, source.Dry{})
			if x.draws.Left() != 0 {
				t.Errorf("%s: %d draws are left", p.name, x.draws.Left())
			}
		}
	}
}

// P18.1: another decision stands there: of another kind, or the first that is too great. What was taken ahead of it stays so; what stands there doesn't, and Step goes on as soon as it fits.
func TestAnotherDecision(t *testing.T) {
	for _, p := range places() {
		last := p.last()
		for kind := record.Pick; kind <= record.Rand; kind++ {
			got := record.Record{Kind: kind}
			if kind == last.Kind {
				got.N = uint64(p.n)
			}
			x := p.at(t, by(p.draws[:len(p.draws)-1], one(got), p.draws)...)
			taken := len(x.draws.Taken()) + len(p.draws) - 1
			x.panics(p.name, source.Unlike{At: taken, Kind: last.Kind, N: p.n, Got: got})
			if len(x.draws.Taken()) != taken {
				t.Errorf("%s: %v", p.name, x.draws.Taken())
			}
			// Somebody else takes what stood there.
			x.draws.Draw(got.Kind, int(got.N)+1)
			x.comesTo(p)
		}
	}
}

// P18.1: a Pick that stands where another draw must is the next Step's.
func TestTheNextStepsPick(t *testing.T) {
	for _, p := range places() {
		if len(p.draws) == 1 {
			continue
		}
		x := p.at(t, by(p.draws[:1], p.draws)...)
		taken := len(x.draws.Taken())
		x.panics(p.name, source.Unlike{At: taken + 1, Kind: p.last().Kind, N: p.n, Got: p.draws[0]})
		x.comesTo(p)
	}
}

// P18.1: whatever a draw panics with, Step does, also when the draw was taken ahead of that; it is drawn anew then.
func TestAWatcherThatPanics(t *testing.T) {
	for _, p := range places() {
		for _, answer := range []any{"seen", 7, record.Record{}} {
			x := p.at(t, by(p.draws, p.draws)...)
			taken := len(x.draws.Taken()) + len(p.draws)
			x.draws.Watch(func(r record.Record) {
				if r.Kind == p.last().Kind {
					panic(answer)
				}
			})
			x.panics(p.name, answer)
			if len(x.draws.Taken()) != taken {
				t.Errorf("%s: %v", p.name, x.draws.Taken())
			}
			x.draws.Watch(nil)
			x.comesTo(p)
		}
	}
}
