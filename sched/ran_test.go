package sched_test

import (
	"fmt"
	"testing"

	"shunter/sched"
	"shunter/world"
)

// P18.1: where who did an instruction stands behind it, and what is left of the turn, be it the last one of its turn or not.
func TestWhereWhoDidItStands(t *testing.T) {
	stays, back, away := 0, 1, 2
	cases := []struct {
		text   string
		ahead  int // so many instructions are done ahead of it
		stands int
		status int
	}{
		{"func\nnop", 0, stays, world.Ready},
		{"func\njump 0", 5, stays, world.Ready},
		{"func\nemit 0\nemit 0", 1, stays, world.Ready},
		{"func\ncall 0 0 0", 3, stays, world.Ready},
		{"func\ncall 1 0 0\nfunc\nreturn 0", 1, stays, world.Ready},
		{"chan 1\nfunc\nsend 0 1", 0, stays, world.Ready},
		{"chan 1\nfunc\nsend 0 1\nrecv 0 1 2", 1, stays, world.Ready},
		{"chan 1\nfunc\nclose 0", 0, stays, world.Ready},
		{"chan 0\nrecv 0 1\nelse\nfunc\nselect 0 2 1", 0, stays, world.Ready},
		{"locks 1\nfunc\nlock 0\nunlock 0", 1, stays, world.Ready},
		{"func\nyield", 0, back, world.Ready},
		{"func\nnop\nyield", 1, back, world.Ready},
		{"func\nsleep 0", 0, back, world.Ready},
		{"func\nconst 1 -5\nsleep 1", 1, back, world.Ready},
		{"func\nconst 1 1\nsleep 1", 1, away, world.Asleep},
		{"chan 0\nfunc\nsend 0 1", 0, away, world.Waiting},
		{"chan 1\nfunc\nsend 0 1\nsend 0 1", 1, away, world.Waiting},
		{"chan 1\nfunc\nrecv 0 1 2", 0, away, world.Waiting},
		{"chan 0\nrecv 0 1\nsend 0 1\nfunc\nselect 0 2 1", 0, away, world.Waiting},
		{"locks 1\nfunc\nlock 0\nlock 0", 1, away, world.Waiting},
		{"func\nreturn 0", 0, away, world.Done},
		{"func\ntrap 0", 0, back, world.Ready},
		{"func\nnop\nnop\ntrap 9", 2, back, world.Ready},
		{"func\nnop", 1, back, world.Ready}, // there is no instruction
		{"chan 0\nfunc\nclose 0\nclose 0", 1, back, world.Ready},
		{"locks 1\nfunc\nunlock 0", 0, back, world.Ready},
	}
	for _, c := range cases {
		for left := range 3 {
			x := start(t, sched.Config{P: 2, M: 1, Ring: 2, Slice: c.ahead + 1 + left}, c.text, picks(0, 3+c.ahead)...)
			x.steps(2)
			x.ran(0, 0, c.ahead+1)
			machine, global := fmt.Sprintf("[{0 -1 %d}]", left), "[]"
			if c.stands == back || c.stands == stays && left == 0 {
				global = "[0]"
			} else if c.stands == stays {
				machine = fmt.Sprintf("[{0 0 %d}]", left)
			}
			x.stands("[{-1 [] 1 0} {-1 [] 0 -1}]", machine, global)
			if got := x.World().Status(0); got != c.status {
				t.Errorf("%q: status %d, not %d", c.text, got, c.status)
			}
		}
	}
}

// P18.1: another one than goroutine 0 is done, or ends all.
func TestAnotherOneIsDone(t *testing.T) {
	x := start(t, sched.Config{P: 1, M: 1, Ring: 2, Slice: 9}, "func\nspawn 1 0 1\nyield\njump 1\nfunc\nreturn 0", picks(0, 7)...)
	x.steps(4)
	x.is(sched.Found, 0, 1)
	x.ran(0, 1, 1)
	x.stands("[{-1 [] 1 0}]", "[{0 -1 6}]", "[0]")
	if x.Status() != sched.Going || x.World().Status(1) != world.Done {
		t.Errorf("status %d, goroutine 1: %d", x.Status(), x.World().Status(1))
	}
	x.is(sched.Found, 0, 0)
	y := start(t, sched.Config{P: 1, M: 1, Ring: 2, Slice: 9}, "func\nspawn 1 0 1\nyield\njump 1\nfunc\ntrap 7", picks(0, 7)...)
	y.steps(4)
	y.is(sched.Found, 0, 1)
	y.ran(0, 1, 1)
	y.stands("[{-1 [] 1 0}]", "[{0 -1 6}]", "[0 1]")
	y.over(sched.Trapped)
}

// P18.1: each of those that can go on by an instruction goes next in its machine's processor's queue, in order; who did it stays, as it can go on.
func TestReadyInOrder(t *testing.T) {
	text := "chan 0\nfunc\nspawn 1 0 1\nspawn 1 0 1\nspawn 1 0 1\nyield\nspawn 2 0 1\nclose 0\njump 6\nfunc\nrecv 0 1 2\njump 0\nfunc\njump 0"
	x := start(t, sched.Config{P: 1, M: 1, Ring: 4, Slice: 9}, text, picks(0, 16)...)
	x.steps(2)
	for g := range 3 {
		x.is(sched.Ran, 0, 0, g+1)
	}
	x.stands("[{3 [1 2] 1 0}]", "[{0 0 6}]", "[]")
	x.steps(8)
	x.stands("[{-1 [] 4 0}]", "[{0 0 9}]", "[]")
	x.is(sched.Ran, 0, 0, 4)
	x.stands("[{4 [] 4 0}]", "[{0 0 8}]", "[]")
	x.is(sched.Ran, 0, 0, 3, 1, 2)
	x.stands("[{2 [4 3 1] 4 0}]", "[{0 0 7}]", "[]")
	x.ran(0, 0, 1)
}

// P18.1: by whatever one can go on: who waited, wherever that was, goes next at the processor of the machine that does the instruction.
func TestReadyComesToWhoLetsOn(t *testing.T) {
	texts := []string{
		"chan 0\nfunc\nspawn 1 0 1\nsend 0 0\njump 2\nfunc\nrecv 0 1 2\njump 0",
		"chan 0\nfunc\nspawn 1 0 1\nrecv 0 1 2\njump 2\nfunc\nsend 0 1\njump 0",
		"chan 0\nfunc\nspawn 1 0 1\nclose 0\njump 2\nfunc\nrecv 0 1 2\njump 0",
		"chan 0\nrecv 0 1\nfunc\nspawn 1 0 1\nsend 0 0\njump 2\nfunc\nselect 0 1 1\njump 0",
		"chan 0\nsend 0 1\nfunc\nspawn 1 0 1\nrecv 0 1 2\njump 2\nfunc\nselect 0 1 1\njump 0",
	}
	for _, text := range texts {
		// Machine 2 holds processor 0, machine 0 processor 1, which steals 1.
		x := start(t, sched.Config{P: 2, M: 3, Ring: 2, Slice: 4}, text, by(picks(2, 1), picks(0, 1), picks(2, 2), one(pick(0), victim(0)), picks(0, 1), picks(2, 1))...)
		x.steps(4)
		x.stands("[{1 [] 1 2} {-1 [] 0 0}]", "[{1 -1 0} {-1 -1 0} {0 0 3}]", "[]")
		x.isBy(2, sched.Stole, 0, 1)
		x.ran(0, 1, 1)
		x.stands("[{-1 [] 1 2} {-1 [] 1 0}]", "[{1 -1 3} {-1 -1 0} {0 0 3}]", "[]")
		x.is(sched.Ran, 2, 0, 1)
		x.stands("[{1 [] 1 2} {-1 [] 1 0}]", "[{1 -1 3} {-1 -1 0} {0 0 2}]", "[]")
	}
}

// P18.1: who gets a lock goes next; who gave it stands behind it in the global row, as its turn is over.
func TestReadyByALock(t *testing.T) {
	text := "locks 1\nfunc\nlock 0\nspawn 1 0 1\nyield\nunlock 0\njump 4\nfunc\nlock 0\njump 1"
	x := start(t, sched.Config{P: 1, M: 1, Ring: 2, Slice: 4}, text, picks(0, 12)...)
	x.steps(5)
	x.stands("[{1 [] 1 0}]", "[{0 -1 1}]", "[0]")
	x.is(sched.Found, 0, 1)
	x.ran(0, 1, 1)
	x.stands("[{-1 [] 1 0}]", "[{0 -1 0}]", "[0]")
	x.is(sched.Found, 0, 0)
	x.is(sched.Ran, 0, 0, 1)
	x.stands("[{1 [] 2 0}]", "[{0 0 3}]", "[]")
	x.ran(0, 0, 3)
	x.stands("[{1 [] 2 0}]", "[{0 -1 0}]", "[0]")
}

// P18.1: a slice of 1: behind each instruction another turn; nobody goes on within one.
func TestSliceOfOne(t *testing.T) {
	x := start(t, sched.Config{P: 1, M: 1, Ring: 2, Slice: 1}, "func\nspawn 1 0 1\njump 1\nfunc\njump 0", picks(0, 9)...)
	x.steps(2)
	x.stands("[{-1 [] 1 0}]", "[{0 0 1}]", "[]")
	x.is(sched.Ran, 0, 0, 1)
	x.stands("[{1 [] 1 0}]", "[{0 -1 0}]", "[0]")
	for i, g := range []int{1, 0, 1} {
		x.is(sched.Found, 0, g)
		x.stands(fmt.Sprintf("[{-1 [] %d 0}]", i+2), fmt.Sprintf("[{0 %d 1}]", g), fmt.Sprintf("[%d]", 1-g))
		x.ran(0, g, 1)
		x.stands(fmt.Sprintf("[{-1 [] %d 0}]", i+2), "[{0 -1 0}]", fmt.Sprintf("[%d %d]", 1-g, g))
	}
}

// P18.1: the longest turn.
func TestSliceOfMost(t *testing.T) {
	x := start(t, sched.Config{P: 1, M: 1, Ring: 2, Slice: 1024}, "func\njump 0", picks(0, 1027)...)
	x.steps(2)
	x.ran(0, 0, 1023)
	x.stands("[{-1 [] 1 0}]", "[{0 0 1}]", "[]")
	x.ran(0, 0, 1)
	x.stands("[{-1 [] 1 0}]", "[{0 -1 0}]", "[0]")
	x.is(sched.Found, 0, 0)
	x.stands("[{-1 [] 2 0}]", "[{0 0 1024}]", "[]")
}

// P18.1: each draw of an instruction is its own, behind the Pick.
func TestDrawsOfInstructions(t *testing.T) {
	text := "chan 1\nchan 1\nchan 1\nsend 0 1\nsend 1 1\nrecv 2 1\nsend 2 1\nfunc\nrand 5 10\nselect 0 4 6\nrand 7 1\nemit 5\nemit 6\nemit 7"
	x := start(t, sched.Config{P: 1, M: 1, Ring: 2, Slice: 9}, text, by(picks(0, 2), one(pick(0), number(7), pick(0), which(2), pick(0), number(0)), picks(0, 3))...)
	x.steps(2)
	for range 3 {
		x.isBy(2, sched.Ran, 0, 0)
	}
	x.ran(0, 0, 3)
	// Of the cases that can go, 0, 1 and 3, the last one.
	if l := fmt.Sprint(x.World().Out()); l != "[7 3 0]" {
		t.Errorf("Out: %s", l)
	}
}

// P18.1: goroutine 0 is done: whoever stands anywhere stays there.
func TestHalted(t *testing.T) {
	x := start(t, sched.Config{P: 2, M: 2, Ring: 4, Slice: 9}, "func\nspawn 1 0 1\nspawn 1 0 1\nspawn 1 0 1\nyield\nreturn 0\nfunc\njump 0", by(picks(0, 6), picks(1, 3), picks(1, 9))...)
	x.steps(7)
	x.is(sched.Found, 1, 0)
	x.is(sched.Ran, 1, 0)
	x.stands("[{3 [1 2] 1 0} {-1 [] 1 1}]", "[{0 -1 5} {1 -1 8}]", "[]")
	x.over(sched.Halted)
}

// P18.1: an instruction ends all: who did it can go on still; whoever goes on at another machine stays there.
func TestTrapped(t *testing.T) {
	for text, why := range map[string]int{"trap 0": 0, "trap 9": 9, "close 0\nclose 0": world.TrapClose, "unlock 0": world.TrapUnlock, "nop": world.TrapEnd} {
		x := start(t, sched.Config{P: 2, M: 2, Ring: 4, Slice: 9}, "chan 0\nlocks 1\nfunc\nspawn 1 0 1\njump 1\nfunc\n"+text, by(picks(0, 3), picks(1, 1), one(pick(1), victim(0)), picks(1, 9))...)
		x.steps(4)
		x.isBy(2, sched.Stole, 1, 1)
		many := 0
		for ; x.Status() == sched.Going; many++ {
			x.ran(1, 1, 1)
		}
		x.stands("[{-1 [] 1 0} {-1 [] 1 1}]", fmt.Sprintf("[{0 0 8} {1 -1 %d}]", 9-many), "[1]")
		if end, got := x.World().End(); end != world.Trapped || got != why {
			t.Errorf("%q: %d, %d", text, end, got)
		}
		x.over(sched.Trapped)
	}
}

// P18.1: nobody can go on, or wake; as long as one sleeps, or can go on, it goes.
func TestDeadlock(t *testing.T) {
	text := "chan 0\nlocks 1\nfunc\nlock 0\nspawn 1 0 1\nspawn 2 0 1\nrecv 0 1 2\nfunc\nlock 0\nfunc\nconst 1 2\nsleep 1\nrecv 0 1 2"
	x := start(t, sched.Config{P: 1, M: 1, Ring: 2, Slice: 9}, text, by(picks(0, 11), picks(1, 2), picks(0, 2), picks(1, 1), picks(0, 9))...)
	for range 14 {
		x.steps(1)
		if x.Status() != sched.Going {
			t.Fatalf("behind step %d: status %d", x.Steps()-1, x.Status())
		}
	}
	x.ran(0, 2, 1)
	x.stands("[{-1 [] 3 0}]", "[{0 -1 8}]", "[]")
	x.over(sched.Deadlock)
	y := start(t, sched.Config{P: 2, M: 1, Ring: 2, Slice: 1}, "locks 1\nfunc\nlock 0\nlock 0", picks(0, 7)...)
	y.steps(5)
	y.stands("[{-1 [] 2 0} {-1 [] 0 -1}]", "[{0 -1 0}]", "[]")
	y.over(sched.Deadlock)
}
