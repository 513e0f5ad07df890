package snap_test

import (
	"slices"
	"testing"

	"shunter/record"
	"shunter/sched"
	"shunter/snap"
	"shunter/source"
)

// ride is a scheduler of some picks, each by its last digit; ahead of that stands the victim of its step, and 1, if it has one.
func ride(t *testing.T, c sched.Config, text string, picks ...uint64) *sched.Sched {
	t.Helper()
	var l []record.Record
	for _, n := range picks {
		l = append(l, record.Record{Kind: record.Pick, N: n % 10})
		if n > 9 {
			l = append(l, record.Record{Kind: record.Victim, N: n/10 - 1})
		}
	}
	return sched.New(program(t, text), c, source.Tape(l))
}

// stepTells does a step, and holds what it was, and the queues' numbers behind it, against what they must be.
func stepTells(t *testing.T, s *sched.Sched, kind int, parts ...[]int64) {
	t.Helper()
	if e := s.Step(); e.Kind != kind {
		t.Errorf("step %d: kind %d, not %d", s.Steps()-1, e.Kind, kind)
	}
	queuesTell(t, s, parts...)
}

// queuesTell: likewise, without a step.
func queuesTell(t *testing.T, s *sched.Sched, parts ...[]int64) {
	t.Helper()
	want := slices.Concat(parts...)
	if got := snap.Queues(s); !slices.Equal(got, want) {
		t.Errorf("behind %d steps: Queues:\n%v, not\n%v", s.Steps(), got, want)
	}
}

// P19.1: behind each kind of step; processors and machines that hold nothing, and something.
func TestQueuesBehindEachStep(t *testing.T) {
	text := "func\nspawn 1 0 1\nspawn 1 0 1\nspawn 1 0 1\nconst 1 1\nsleep 1\nreturn 0\nfunc\nnop\njump 0"
	s := ride(t, sched.Config{P: 2, M: 3, Ring: 4, Slice: 8}, text, 2, 2, 2, 2, 2, 0, 1, 10, 0)
	none, machine := row(-1, 0, 0, -1), row(-1, -1, 0)
	queuesTell(t, s, row(0, 0, 1, 0, 2), none, none, row(3), machine, machine, machine)
	stepTells(t, s, sched.Held, row(1, 0, 1, 0, 2), row(-1, 0, 0, 2), none, row(3), machine, machine, row(0, -1, 0))
	stepTells(t, s, sched.Found, row(2, 0, 0, 2), row(-1, 0, 1, 2), none, row(3), machine, machine, row(0, 0, 8))
	stepTells(t, s, sched.Ran, row(3, 0, 0, 2), row(1, 0, 1, 2), none, row(3), machine, machine, row(0, 0, 7))
	stepTells(t, s, sched.Ran, row(4, 0, 0, 2), row(2, 1, 1, 1, 2), none, row(3), machine, machine, row(0, 0, 6))
	stepTells(t, s, sched.Ran, row(5, 0, 0, 2), row(3, 2, 1, 2, 1, 2), none, row(3), machine, machine, row(0, 0, 5))
	stepTells(t, s, sched.Held, row(6, 0, 0, 2), row(3, 2, 1, 2, 1, 2), row(-1, 0, 0, 0), row(3, 1, -1, 0), machine, row(0, 0, 5))
	stepTells(t, s, sched.Idle, row(7, 0, 0, 2), row(3, 2, 1, 2, 1, 2), row(-1, 0, 0, 0), row(3, 1, -1, 0), machine, row(0, 0, 5))
	stepTells(t, s, sched.Stole, row(8, 0, 0, 2), row(3, 1, 2, 1, 2), row(-1, 0, 1, 0), row(3, 1, 1, 8), machine, row(0, 0, 5))
	stepTells(t, s, sched.Ran, row(9, 0, 0, 2), row(3, 1, 2, 1, 2), row(-1, 0, 1, 0), row(3, 1, 1, 7), machine, row(0, 0, 5))
}

// P19.1: a machine that gives its processor back, the clock, and how all ends.
func TestQueuesAtTheEnd(t *testing.T) {
	text := "func\nconst 1 1\nsleep 1\nreturn 0"
	s := ride(t, sched.Config{P: 2, M: 1, Ring: 2, Slice: 3}, text, 0, 0, 0, 0, 20, 1, 0, 0, 0)
	other := row(-1, 0, 0, -1)
	for range 3 {
		s.Step()
	}
	stepTells(t, s, sched.Ran, row(4, 0, 0, 2), row(-1, 0, 1, 0), other, row(1, 0, -1, 1))
	stepTells(t, s, sched.Parked, row(5, 0, 0, 2), row(-1, 0, 1, -1), other, row(1, -1, -1, 0))
	stepTells(t, s, sched.Ticked, row(6, 0, 1, 0, 2), row(-1, 0, 1, -1), other, row(1, -1, -1, 0))
	stepTells(t, s, sched.Held, row(7, 0, 1, 0, 2), row(-1, 0, 1, 0), other, row(1, 0, -1, 0))
	stepTells(t, s, sched.Found, row(8, 0, 0, 2), row(-1, 0, 2, 0), other, row(1, 0, 0, 3))
	stepTells(t, s, sched.Ran, row(9, 1, 0, 2), row(-1, 0, 2, 0), other, row(1, 0, -1, 2))
	stepTells(t, s, 0, row(9, 1, 0, 2), row(-1, 0, 2, 0), other, row(1, 0, -1, 2))
}

// P19.1: each way in which all can be.
func TestQueuesOfEachStatus(t *testing.T) {
	for status, text := range []string{"func\nnop\nnop", "func\nreturn 0", "func\ntrap 7", "chan 0\nfunc\nsend 0 1"} {
		s := ride(t, sched.Config{P: 1, M: 1, Ring: 2, Slice: 2}, text, 0, 0, 0)
		for range 3 {
			s.Step()
		}
		l := snap.Queues(s)
		if l[0] != 3 || l[1] != int64(status) {
			t.Errorf("%q: %v", text, l)
		}
	}
}

// P19.1: a ring that is empty, and fills, and runs over; a global row that is empty, and long.
func TestQueuesOfManyGoroutines(t *testing.T) {
	text := "func\nspawn 1 0 1\njump 0\nfunc\njump 0"
	s := ride(t, sched.Config{P: 1, M: 1, Ring: 2, Slice: 1000}, text, make([]uint64, 60)...)
	s.Step()
	behind := func(next, turns int64, ring ...int64) []int64 {
		return slices.Concat(row(1, next), row(int64(len(ring))), ring, row(turns, 0))
	}
	stepTells(t, s, sched.Found, row(2, 0), row(0), behind(-1, 1), row(1, 0, 0, 1000))
	stepTells(t, s, sched.Ran, row(3, 0), row(0), behind(1, 1), row(1, 0, 0, 999))
	s.Step()
	stepTells(t, s, sched.Ran, row(5, 0), row(0), behind(2, 1, 1), row(1, 0, 0, 997))
	s.Step()
	stepTells(t, s, sched.Ran, row(7, 0), row(0), behind(3, 1, 1, 2), row(1, 0, 0, 995))
	s.Step()
	stepTells(t, s, sched.Ran, row(9, 0), row(2, 1, 3), behind(4, 1, 2), row(1, 0, 0, 993))
	for range 40 {
		s.Step()
	}
	var long []int64
	for _, g := range s.Global() {
		long = append(long, int64(g))
	}
	if len(long) != 22 {
		t.Errorf("the global row: %v", long)
	}
	queuesTell(t, s, row(49, 0), row(22), long, behind(24, 1, 22), row(1, 0, 0, 953))
}

// P19.1: as many processors and machines as may be.
func TestQueuesOfManyProcessors(t *testing.T) {
	s := ride(t, sched.Config{P: 64, M: 64, Ring: 1024, Slice: 1024}, "func\nnop", 7, 7)
	none, machine := slices.Repeat(row(-1, 0, 0, -1), 63), slices.Repeat(row(-1, -1, 0), 63)
	s.Step()
	stepTells(t, s, sched.Found, row(2, 0, 0, 64, -1, 0, 1, 7), none, row(64), machine[:7*3], row(0, 0, 1024), machine[7*3:])
}

// P1: a Sched that New didn't make has nobody.
func TestZeroSched(t *testing.T) {
	var s sched.Sched
	queuesTell(t, &s, row(0, sched.Deadlock, 0, 0, 0))
	if l := snap.All(&s, 1, 0); !slices.Equal(l, row(0, sched.Deadlock, 0, 0, 0, 0, 0, 0, 0, 0, 0, 0, 0, 0, 0)) {
		t.Errorf("All: %v", l)
	}
}

// P19.1: All is the queues' numbers, and then the world's, of so many channels and locks.
func TestAll(t *testing.T) {
	text := "chan 1\nlocks 1\nfunc\nconst 1 5\nsend 0 1\nlock 0\nemit 1\nyield"
	s := ride(t, sched.Config{P: 1, M: 1, Ring: 2, Slice: 9}, text, 0, 0, 0, 0, 0, 0)
	for range 6 {
		s.Step()
	}
	want := slices.Concat(row(6, 0, 0, 1, -1, 0, 1, 0, 1, 0, 0, 5), row(0, 0, 0, 1), lone(1, 0, 4, 0, 5), row(0, 1, 5, 0, 0), row(0, 0), row(0), row(1, 5))
	if got := snap.All(s, 1, 1); !slices.Equal(got, want) {
		t.Errorf("All: %v, not %v", got, want)
	}
	for channels := -2; channels < 4; channels++ {
		for locks := -2; locks < 4; locks++ {
			if got := snap.All(s, channels, locks); !slices.Equal(got, slices.Concat(snap.Queues(s), snap.World(s.World(), channels, locks))) {
				t.Errorf("All of %d channels, %d locks: %v", channels, locks, got)
			}
		}
	}
}
