package sched_test

import (
	"slices"
	"testing"

	"shunter/record"
	"shunter/sched"
)

// by lays draws one behind the other.
func by(l ...[]record.Record) []record.Record {
	return slices.Concat(l...)
}

// one is decisions as they stand.
func one(l ...record.Record) []record.Record {
	return l
}

// P18.1: the clock: nobody wakes, one does, several do, in the order in which they wake; they come into the global row, behind all others. Who goes on at a machine stays there.
func TestClock(t *testing.T) {
	text := "func\nconst 1 2\nspawn 1 1 0\nconst 1 1\nspawn 1 1 0\nconst 1 2\nspawn 1 1 0\nyield\njump 6\nfunc\nsleep 0\njump 0"
	x := start(t, sched.Config{P: 2, M: 1, Ring: 4, Slice: 20}, text, by(picks(1, 1), picks(0, 5), picks(1, 1), picks(0, 10), picks(1, 4))...)
	x.is(sched.Ticked, sched.None, sched.None)
	x.stands("[{-1 [] 0 -1} {-1 [] 0 -1}]", "[{-1 -1 0}]", "[0]")
	x.steps(4)
	x.is(sched.Ran, 0, 0)
	x.stands("[{1 [] 1 0} {-1 [] 0 -1}]", "[{0 0 17}]", "[]")
	x.is(sched.Ticked, sched.None, sched.None)
	x.stands("[{1 [] 1 0} {-1 [] 0 -1}]", "[{0 0 17}]", "[]")
	x.is(sched.Ran, 0, 0, 2)
	x.is(sched.Ran, 0, 0)
	x.is(sched.Ran, 0, 0, 3)
	x.is(sched.Ran, 0, 0)
	// They sleep one behind the other: 3 until 4, 1 until 4, 2 until 3.
	for _, g := range []int{3, 1, 2} {
		x.is(sched.Found, 0, g)
		x.is(sched.Ran, 0, g)
	}
	x.stands("[{-1 [] 3 0} {-1 [] 0 -1}]", "[{0 -1 19}]", "[0]")
	x.is(sched.Ticked, sched.None, sched.None, 2)
	x.stands("[{-1 [] 3 0} {-1 [] 0 -1}]", "[{0 -1 19}]", "[0 2]")
	x.is(sched.Ticked, sched.None, sched.None, 3, 1)
	x.stands("[{-1 [] 3 0} {-1 [] 0 -1}]", "[{0 -1 19}]", "[0 2 3 1]")
	x.is(sched.Ticked, sched.None, sched.None)
	x.is(sched.Ticked, sched.None, sched.None)
	x.stands("[{-1 [] 3 0} {-1 [] 0 -1}]", "[{0 -1 19}]", "[0 2 3 1]")
	if c := x.World().Clock(); c != 6 {
		t.Errorf("Clock: %d", c)
	}
}

// P18.1, P18.3: a machine without a processor takes the lowest one that nobody holds, also of those that were held; is there none, nothing changes.
func TestHold(t *testing.T) {
	draws := by(picks(2, 1), picks(0, 1), picks(4, 1), picks(1, 1), picks(3, 1), picks(1, 1), picks(2, 1),
		one(pick(0), victim(2), pick(3), pick(4), victim(2), pick(3), victim(0)), picks(1, 1), picks(0, 1), picks(4, 1))
	x := start(t, sched.Config{P: 3, M: 5, Ring: 2, Slice: 2}, "func\nyield\njump 0", draws...)
	for _, m := range []int{2, 0, 4} {
		x.is(sched.Held, m, sched.None)
	}
	held := "[{-1 [] 0 2} {-1 [] 0 0} {-1 [] 0 4}]"
	x.stands(held, "[{1 -1 0} {-1 -1 0} {0 -1 0} {-1 -1 0} {2 -1 0}]", "[0]")
	for _, m := range []int{1, 3, 1} {
		x.is(sched.Idle, m, sched.None)
		x.stands(held, "[{1 -1 0} {-1 -1 0} {0 -1 0} {-1 -1 0} {2 -1 0}]", "[0]")
	}
	x.is(sched.Found, 2, 0)
	x.isBy(2, sched.Parked, 0, sched.None)
	x.is(sched.Held, 3, sched.None)
	x.stands("[{-1 [] 1 2} {-1 [] 0 3} {-1 [] 0 4}]", "[{-1 -1 0} {-1 -1 0} {0 0 2} {1 -1 0} {2 -1 0}]", "[]")
	x.isBy(2, sched.Parked, 4, sched.None)
	x.isBy(2, sched.Parked, 3, sched.None)
	x.is(sched.Held, 1, sched.None)
	x.is(sched.Held, 0, sched.None)
	x.is(sched.Idle, 4, sched.None)
	x.stands("[{-1 [] 1 2} {-1 [] 0 1} {-1 [] 0 0}]", "[{2 -1 0} {1 -1 0} {0 0 2} {-1 -1 0} {-1 -1 0}]", "[]")
}

// P18.1: as many machines, and processors, as there may be.
func TestHoldAll(t *testing.T) {
	var l []record.Record
	for m := range 64 {
		l = append(l, pick(uint64(63-m)))
	}
	x := start(t, sched.Config{P: 63, M: 64, Ring: 1024, Slice: 1024}, "func\njump 0", append(l, pick(64))...)
	for p := range 63 {
		x.is(sched.Held, 63-p, sched.None)
		if m := x.Machines()[63-p]; m != (sched.Machine{P: p, G: -1}) || x.Processors()[p].By != 63-p {
			t.Errorf("machine %d: %+v", 63-p, m)
		}
	}
	x.is(sched.Idle, 0, sched.None)
	x.is(sched.Ticked, sched.None, sched.None)
}

// P18.1: with instructions left, and somebody next, that one goes on within the turn; with some left, and nobody next, a new turn is for the ring's eldest.
func TestFoundWithinTheTurn(t *testing.T) {
	x := start(t, sched.Config{P: 1, M: 1, Ring: 4, Slice: 5}, "func\nspawn 1 0 1\nspawn 1 0 1\nyield\njump 2\nfunc\nnop\nyield\njump 0", picks(0, 12)...)
	x.steps(5)
	x.stands("[{2 [1] 1 0}]", "[{0 -1 2}]", "[0]")
	x.is(sched.Found, 0, 2)
	x.stands("[{-1 [1] 1 0}]", "[{0 2 2}]", "[0]")
	x.ran(0, 2, 2)
	x.stands("[{-1 [1] 1 0}]", "[{0 -1 0}]", "[0 2]")
	x.is(sched.Found, 0, 1)
	x.stands("[{-1 [] 2 0}]", "[{0 1 5}]", "[0 2]")
	x.ran(0, 1, 2)
	// 3 are left, but nobody goes next.
	x.stands("[{-1 [] 2 0}]", "[{0 -1 3}]", "[0 2 1]")
	x.is(sched.Found, 0, 0)
	x.stands("[{-1 [] 3 0}]", "[{0 0 5}]", "[2 1]")
}

// P18.1: a new turn, as some are left, but nobody goes next: what was left is forgotten, the ring goes ahead of the global row.
func TestNewTurnWithSomeLeft(t *testing.T) {
	x := start(t, sched.Config{P: 2, M: 1, Ring: 4, Slice: 8}, "func\nspawn 1 0 1\nspawn 1 0 1\nspawn 1 0 1\nyield\njump 3\nfunc\nyield\njump 0", picks(0, 11)...)
	x.steps(6)
	x.is(sched.Found, 0, 3)
	x.ran(0, 3, 1)
	x.stands("[{-1 [1 2] 1 0} {-1 [] 0 -1}]", "[{0 -1 3}]", "[0 3]")
	x.is(sched.Found, 0, 1)
	x.stands("[{-1 [2] 2 0} {-1 [] 0 -1}]", "[{0 1 8}]", "[0 3]")
	x.ran(0, 1, 1)
	x.is(sched.Found, 0, 2)
	x.stands("[{-1 [] 3 0} {-1 [] 0 -1}]", "[{0 2 8}]", "[0 3 1]")
}

// P18.1: with nothing left, who goes next stands behind the ring's others ahead of all else, and the ring's eldest goes on.
func TestTurn(t *testing.T) {
	x := start(t, sched.Config{P: 1, M: 1, Ring: 4, Slice: 2}, "func\nspawn 1 0 1\nspawn 1 0 1\njump 0\nfunc\njump 0", picks(0, 9)...)
	x.steps(4)
	x.stands("[{2 [1] 1 0}]", "[{0 -1 0}]", "[0]")
	x.is(sched.Found, 0, 1)
	x.stands("[{-1 [2] 2 0}]", "[{0 1 2}]", "[0]")
	x.ran(0, 1, 2)
	x.is(sched.Found, 0, 2)
	x.stands("[{-1 [] 3 0}]", "[{0 2 2}]", "[0 1]")
}

// P18.1: a ring of 2 that is full, and somebody next: by the turn one of the ring, and that one, come into the global row.
func TestTurnRunsOver(t *testing.T) {
	x := start(t, sched.Config{P: 1, M: 1, Ring: 2, Slice: 3}, "func\nspawn 1 0 1\nspawn 1 0 1\nspawn 1 0 1\njump 0\nfunc\njump 0", picks(0, 7)...)
	x.steps(5)
	x.stands("[{3 [1 2] 1 0}]", "[{0 -1 0}]", "[0]")
	x.is(sched.Found, 0, 2)
	x.stands("[{-1 [] 2 0}]", "[{0 2 3}]", "[0 1 3]")
	x.ran(0, 2, 1)
}

// P18.1: several can go on by one instruction, the last one of its turn, at a ring of 2: it runs over by them, in order; who did the instruction comes behind them. The turn behind that is the seventh.
func TestReadyRunsOver(t *testing.T) {
	text := "chan 0\nfunc\nspawn 1 0 1\nspawn 1 0 1\nspawn 1 0 1\nspawn 1 0 1\nspawn 1 0 1\nyield\nnop\nnop\nnop\nnop\nnop\nnop\nclose 0\nyield\njump 3\nfunc\nrecv 0 1 2\njump 0"
	x := start(t, sched.Config{P: 1, M: 1, Ring: 2, Slice: 7}, text, picks(0, 28)...)
	x.steps(2)
	for g := range 5 {
		x.is(sched.Ran, 0, 0, g+1)
	}
	// By 4 the ring had no room for 3: 1 and 3 went away.
	x.stands("[{5 [2 4] 1 0}]", "[{0 0 2}]", "[1 3]")
	x.ran(0, 0, 1)
	for _, g := range []int{5, 2, 4, 1, 3} {
		x.is(sched.Found, 0, g)
		x.ran(0, g, 1)
	}
	x.is(sched.Found, 0, 0)
	x.ran(0, 0, 6)
	x.stands("[{-1 [] 6 0}]", "[{0 0 1}]", "[]")
	x.is(sched.Ran, 0, 0, 5, 2, 4, 1, 3)
	x.stands("[{3 [2 1] 6 0}]", "[{0 -1 0}]", "[5 4 0]")
	x.is(sched.Found, 0, 5)
	x.stands("[{-1 [1] 7 0}]", "[{0 5 7}]", "[4 0 2 3]")
}

// P18.1: the seventh turn, and the seventh behind it, are for the global row, though the ring has somebody; the others aren't.
func TestEverySeventhTurn(t *testing.T) {
	text := "func\nnop\nnop\nnop\nnop\nnop\nspawn 1 0 1\nnop\nnop\nnop\nspawn 1 0 1\nnop\nfunc\njump 0"
	x := start(t, sched.Config{P: 1, M: 1, Ring: 9, Slice: 1}, text, picks(0, 30)...)
	x.is(sched.Held, 0, sched.None)
	for range 5 {
		x.is(sched.Found, 0, 0)
		x.ran(0, 0, 1)
	}
	x.is(sched.Found, 0, 0)
	x.is(sched.Ran, 0, 0, 1)
	x.stands("[{1 [] 6 0}]", "[{0 -1 0}]", "[0]")
	x.is(sched.Found, 0, 0)
	// Who went next stands in the ring all the same.
	x.stands("[{-1 [1] 7 0}]", "[{0 0 1}]", "[]")
	x.ran(0, 0, 1)
	for _, g := range []int{1, 0, 1, 0, 1} {
		x.is(sched.Found, 0, g)
		x.ran(0, g, 1)
	}
	x.is(sched.Found, 0, 0)
	x.is(sched.Ran, 0, 0, 2)
	x.stands("[{2 [] 13 0}]", "[{0 -1 0}]", "[1 0]")
	x.is(sched.Found, 0, 1)
	x.stands("[{-1 [2] 14 0}]", "[{0 1 1}]", "[0]")
	x.ran(0, 1, 1)
	x.is(sched.Found, 0, 2)
	x.stands("[{-1 [] 15 0}]", "[{0 2 1}]", "[0 1]")
}

// P18.1: the seventh turn, with somebody in the queue, and nobody in the global row: the queue's.
func TestSeventhTurnWithoutGlobal(t *testing.T) {
	text := "chan 0\nfunc\nnop\nnop\nnop\nnop\nnop\nnop\nnop\nnop\nnop\nnop\nspawn 1 0 1\nrecv 0 1 2\nfunc\nnop\njump 0"
	x := start(t, sched.Config{P: 2, M: 1, Ring: 2, Slice: 2}, text, picks(0, 20)...)
	x.steps(1 + 5*3 + 3)
	x.stands("[{1 [] 6 0} {-1 [] 0 -1}]", "[{0 -1 0}]", "[]")
	x.is(sched.Found, 0, 1)
	x.stands("[{-1 [] 7 0} {-1 [] 0 -1}]", "[{0 1 2}]", "[]")
}

// P18.1: the seventh turn, with nobody anywhere: no turn is given, so that the next one is the seventh again.
func TestSeventhTurnOfNobody(t *testing.T) {
	text := "func\nnop\nnop\nnop\nnop\nnop\nnop\nnop\nnop\nnop\nnop\nconst 1 1\nsleep 1\njump 10"
	x := start(t, sched.Config{P: 1, M: 1, Ring: 2, Slice: 2}, text, by(picks(0, 1+6*3+3), picks(1, 1), picks(0, 2))...)
	x.steps(1 + 6*3)
	x.stands("[{-1 [] 6 0}]", "[{0 -1 0}]", "[]")
	x.is(sched.Parked, 0, sched.None)
	x.is(sched.Held, 0, sched.None)
	x.is(sched.Parked, 0, sched.None)
	x.stands("[{-1 [] 6 -1}]", "[{-1 -1 0}]", "[]")
	x.is(sched.Ticked, sched.None, sched.None, 0)
	x.is(sched.Held, 0, sched.None)
	x.is(sched.Found, 0, 0)
	x.stands("[{-1 [] 7 0}]", "[{0 0 2}]", "[]")
}

// P18.1: with nobody in the queue, the eldest of the global row alone goes on, however many there are.
func TestFoundInTheGlobalRow(t *testing.T) {
	text := "func\nconst 1 1\nspawn 1 1 0\nspawn 1 1 0\nspawn 1 1 0\nspawn 1 1 0\nsleep 1\njump 5\nfunc\nsleep 0\njump 0"
	x := start(t, sched.Config{P: 2, M: 2, Ring: 8, Slice: 100}, text, by(picks(0, 16), picks(2, 1), picks(1, 2), picks(0, 3))...)
	x.steps(16)
	x.is(sched.Ticked, sched.None, sched.None, 0, 4, 1, 2, 3)
	x.is(sched.Held, 1, sched.None)
	x.is(sched.Found, 1, 0)
	x.stands("[{-1 [] 4 0} {-1 [] 1 1}]", "[{0 -1 99} {1 0 100}]", "[4 1 2 3]")
	x.is(sched.Found, 0, 4)
	x.stands("[{-1 [] 5 0} {-1 [] 1 1}]", "[{0 4 100} {1 0 100}]", "[1 2 3]")
	x.ran(0, 4, 2)
}

// P18.1: of one processor no Victim is drawn: with nobody anywhere the machine holds it no more, and nothing is left of its turn.
func TestParkedOfOneProcessor(t *testing.T) {
	text := "func\nconst 1 1\nsleep 1\njump 1"
	x := start(t, sched.Config{P: 1, M: 2, Ring: 2, Slice: 9}, text, by(picks(0, 5), picks(1, 2), picks(0, 1))...)
	x.steps(4)
	x.stands("[{-1 [] 1 0}]", "[{0 -1 7} {-1 -1 0}]", "[]")
	x.is(sched.Parked, 0, sched.None)
	x.stands("[{-1 [] 1 -1}]", "[{-1 -1 0} {-1 -1 0}]", "[]")
	x.is(sched.Held, 1, sched.None)
	x.is(sched.Parked, 1, sched.None)
	x.is(sched.Held, 0, sched.None)
	x.stands("[{-1 [] 1 0}]", "[{0 -1 0} {-1 -1 0}]", "[]")
}

// thieves: machine 0 holds processor 0, whose ring has 1, 2 and 3, and where 4 goes next; 0 goes on there, and the global row has nobody. Machine 1 holds processor 1, machine 2 holds processor 2.
func thieves(t *testing.T, draws ...record.Record) *ride {
	t.Helper()
	text := "func\nspawn 1 0 1\nspawn 1 0 1\nspawn 1 0 1\nspawn 1 0 1\njump 4\nfunc\nsend 0 1"
	x := start(t, sched.Config{P: 3, M: 3, Ring: 4, Slice: 6}, "chan 0\n"+text, by(picks(0, 6), picks(1, 1), picks(2, 1), draws)...)
	x.steps(8)
	x.stands("[{4 [1 2 3] 1 0} {-1 [] 0 1} {-1 [] 0 2}]", "[{0 0 2} {1 -1 0} {2 -1 0}]", "[]")
	return x
}

// P18.1: half of another one's ring, rounded up, is stolen, the eldest of which goes on: a turn of the thief's processor, none of the other one.
func TestStole(t *testing.T) {
	x := thieves(t, pick(1), victim(0), pick(2), victim(0), pick(1), pick(1))
	x.isBy(2, sched.Stole, 1, 1)
	x.stands("[{4 [3] 1 0} {-1 [2] 1 1} {-1 [] 0 2}]", "[{0 0 2} {1 1 6} {2 -1 0}]", "[]")
	x.isBy(2, sched.Stole, 2, 3)
	x.stands("[{4 [] 1 0} {-1 [2] 1 1} {-1 [] 1 2}]", "[{0 0 2} {1 1 6} {2 3 6}]", "[]")
	x.ran(1, 1, 1)
	x.is(sched.Found, 1, 2)
	x.stands("[{4 [] 1 0} {-1 [] 2 1} {-1 [] 1 2}]", "[{0 0 2} {1 2 6} {2 3 6}]", "[]")
}

// P18.1: of a processor without a ring's, who goes next there is stolen; instructions that were left of the thief's turn don't count.
func TestStoleWhoGoesNext(t *testing.T) {
	x := thieves(t, pick(1), victim(0), pick(2), victim(0), pick(2), pick(2), victim(0))
	x.isBy(2, sched.Stole, 1, 1)
	x.isBy(2, sched.Stole, 2, 3)
	x.ran(2, 3, 1)
	x.stands("[{4 [] 1 0} {-1 [2] 1 1} {-1 [] 1 2}]", "[{0 0 2} {1 1 6} {2 -1 5}]", "[]")
	x.isBy(2, sched.Stole, 2, 4)
	x.stands("[{-1 [] 1 0} {-1 [2] 1 1} {-1 [] 2 2}]", "[{0 0 2} {1 1 6} {2 4 6}]", "[]")
}

// P18.1: a Steal that finds nobody, be it of another processor, or of its own: the machine holds its processor no more, nothing is left, no turn was given.
func TestParked(t *testing.T) {
	for _, from := range []uint64{2, 1} {
		x := thieves(t, pick(1), victim(0), pick(1), pick(1), pick(1), pick(1), victim(from), pick(1))
		x.isBy(2, sched.Stole, 1, 1)
		x.ran(1, 1, 1)
		x.is(sched.Found, 1, 2)
		x.ran(1, 2, 1)
		x.stands("[{4 [3] 1 0} {-1 [] 2 1} {-1 [] 0 2}]", "[{0 0 2} {1 -1 5} {2 -1 0}]", "[]")
		x.isBy(2, sched.Parked, 1, sched.None)
		x.stands("[{4 [3] 1 0} {-1 [] 2 -1} {-1 [] 0 2}]", "[{0 0 2} {-1 -1 0} {2 -1 0}]", "[]")
		x.is(sched.Held, 1, sched.None)
		x.stands("[{4 [3] 1 0} {-1 [] 2 1} {-1 [] 0 2}]", "[{0 0 2} {1 -1 0} {2 -1 0}]", "[]")
	}
}

// P18.1: is there somebody in the queue, or in the global row, no Victim is drawn, though there are other processors.
func TestNoVictimWhereSomebodyIsFound(t *testing.T) {
	x := thieves(t, pick(0), pick(0), pick(0), pick(1), pick(1))
	x.ran(0, 0, 2)
	x.is(sched.Found, 0, 1)
	x.stands("[{-1 [2 3 4] 2 0} {-1 [] 0 1} {-1 [] 0 2}]", "[{0 1 6} {1 -1 0} {2 -1 0}]", "[0]")
	x.is(sched.Found, 1, 0)
	x.ran(1, 0, 1)
	x.stands("[{-1 [2 3 4] 2 0} {-1 [] 1 1} {-1 [] 0 2}]", "[{0 1 6} {1 0 5} {2 -1 0}]", "[]")
}
