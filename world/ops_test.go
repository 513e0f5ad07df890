package world_test

import (
	"fmt"
	"math"
	"slices"
	"testing"

	"shunter/api"
	"shunter/chans"
	"shunter/frame"
	"shunter/heap"
	"shunter/record"
	"shunter/world"
)

// P16.1: what registers alone decide is layer 12's.
func TestPureOps(t *testing.T) {
	const ahead = "const 1 7\nconst 2 -3\n"
	for _, x := range []struct {
		ins   string
		place int
		regs  []int64
	}{
		{"nop", 3, []int64{0, 7, -3}},
		{"const 3 -9223372036854775808", 3, []int64{0, 7, -3, math.MinInt64}},
		{"move 4 2", 3, []int64{0, 7, -3, 0, -3}},
		{"add 5 1 2", 3, []int64{0, 7, -3, 0, 0, 4}},
		{"sub 6 1 2", 3, []int64{0, 7, -3, 0, 0, 0, 10}},
		{"mul 7 1 2", 3, []int64{0, 7, -3, 0, 0, 0, 0, -21}},
		{"less 0 2 1", 3, []int64{1, 7, -3}},
		{"less 1 1 2", 3, []int64{0, 0, -3}},
		{"jump 2", 2, []int64{0, 7, -3}},
		{"jump 0", 0, []int64{0, 7, -3}},
		{"jump 4", 4, []int64{0, 7, -3}},
		{"if 1 0", 0, []int64{0, 7, -3}},
		{"if 2 4", 4, []int64{0, 7, -3}},
		{"if 0 0", 3, []int64{0, 7, -3}},
	} {
		w := start(t, "func\n"+ahead+x.ins+"\nnop\nnop\n")
		effect(t, w, 0, true)
		effect(t, w, 0, true)
		effect(t, w, 0, true)
		at(t, w, 0, x.place, x.regs...)
		ended(t, w, world.Runs, 0)
	}
}

// P16.1: Call and Return: the number in the first register, the others 0; what is returned into C of the one below.
func TestCallAndReturn(t *testing.T) {
	w := start(t, "func\nconst 1 11\nconst 2 22\ncall 1 2 1\nemit 1\nreturn 0\nfunc\nconst 3 4\nadd 3 0 3\ncall 2 3 0\nadd 0 0 3\nreturn 0\nfunc\nmul 7 0 0\nreturn 7")
	run(t, w, 0, 0)
	effect(t, w, 0, true)
	check12 := func(want ...frame.Frame) {
		t.Helper()
		if s := w.Stack(0); !slices.Equal(s, want) {
			t.Errorf("Stack: %+v, not %+v", s, want)
		}
	}
	below := frame.Frame{Func: 0, At: 3, R: [8]int64{0, 11, 22}}
	check12(below, frame.Frame{Func: 1, R: [8]int64{22}, Into: 1})
	run(t, w, 0, 0)
	effect(t, w, 0, true)
	middle := frame.Frame{Func: 1, At: 3, R: [8]int64{22, 0, 0, 26}, Into: 1}
	check12(below, middle, frame.Frame{Func: 2, R: [8]int64{26}, Into: 0})
	run(t, w, 0)
	effect(t, w, 0, true)
	middle.R[0] = 676
	check12(below, middle)
	run(t, w, 0)
	effect(t, w, 0, true)
	below.R[1] = 702
	check12(below)
	is(t, w, 0, world.Ready)
	run(t, w, 0)
	ended(t, w, world.Runs, 0)
	effect(t, w, 0, false)
	ended(t, w, world.Halted, 0)
	is(t, w, 0, world.Done)
	if out := w.Out(); !slices.Equal(out, []int64{702}) {
		t.Errorf("Out: %v", out)
	}
}

// P16.1: Return of the last frame: who isn't goroutine 0 is Done, and all goes on; of goroutine 0 all is Halted.
func TestLastReturn(t *testing.T) {
	w := start(t, "func\nspawn 1 0 1\nspawn 1 0 1\nreturn 1\nfunc\ncall 2 0 3\nreturn 3\nfunc\nreturn 0")
	run(t, w, 0, 0, 1)
	effect(t, w, 1, true)
	is(t, w, 1, world.Ready)
	effect(t, w, 1, false)
	is(t, w, 1, world.Done)
	ended(t, w, world.Runs, 0)
	is(t, w, 2, world.Ready)
	effect(t, w, 0, false)
	is(t, w, 0, world.Done)
	is(t, w, 2, world.Ready)
	ended(t, w, world.Halted, 0)
}

// P16.1: Spawn: the numbers rise, also behind one that is Done; the number handed over is there ahead of the one that is written.
func TestSpawn(t *testing.T) {
	w := start(t, "func\nconst 4 -8\nspawn 1 4 4\nspawn 2 4 5\nspawn 1 0 6\njump 0\nfunc\nreturn 0\nfunc\nnop")
	run(t, w, 0)
	effect(t, w, 0, true, 1)
	at(t, w, 0, 2, 0, 0, 0, 0, 1)
	effect(t, w, 1, false)
	effect(t, w, 0, true, 2)
	at(t, w, 0, 3, 0, 0, 0, 0, 1, 2)
	effect(t, w, 0, true, 3)
	at(t, w, 0, 4, 0, 0, 0, 0, 1, 2, 3)
	if w.Len() != 4 {
		t.Errorf("Len: %d", w.Len())
	}
	for g, want := range map[int]frame.Frame{1: {Func: 1, At: 1, R: [8]int64{-8}}, 2: {Func: 2, R: [8]int64{1}}, 3: {Func: 1}} {
		if s := w.Stack(g); len(s) != 1 || s[0] != want {
			t.Errorf("goroutine %d: %+v", g, s)
		}
	}
	is(t, w, 1, world.Done)
	is(t, w, 2, world.Ready)
	is(t, w, 3, world.Ready)
}

// P16.1: Yield: nothing, but that another one goes on.
func TestYield(t *testing.T) {
	w := start(t, "func\nconst 1 5\nyield\nyield\nnop")
	run(t, w, 0)
	for i := range 2 {
		effect(t, w, 0, false)
		is(t, w, 0, world.Ready)
		at(t, w, 0, i+2, 0, 5)
	}
	effect(t, w, 0, true)
}

// P16.1: Sleep: numbers that aren't above 0 are nothing, those above MaxSleep count as that.
func TestSleep(t *testing.T) {
	for _, v := range []int64{0, -1, -5, math.MinInt64} {
		w := start(t, fmt.Sprintf("func\nconst 1 %d\nsleep 1\nnop", v))
		run(t, w, 0)
		effect(t, w, 0, false)
		is(t, w, 0, world.Ready)
		at(t, w, 0, 2, 0, v)
		if l := w.Sleepers(); len(l) != 0 {
			t.Errorf("sleep %d: %v", v, l)
		}
		effect(t, w, 0, true)
	}
	for _, x := range []struct {
		v     int64
		ticks uint64
	}{{1, 1}, {2, 2}, {100, 100}, {api.MaxSleep - 1, api.MaxSleep - 1}, {api.MaxSleep, api.MaxSleep}, {api.MaxSleep + 1, api.MaxSleep}, {math.MaxInt64, api.MaxSleep}} {
		w := start(t, fmt.Sprintf("func\nconst 1 %d\nsleep 1\nnop", x.v))
		// The clock is somewhere behind 0 then.
		for range 3 {
			w.Tick()
		}
		run(t, w, 0)
		effect(t, w, 0, false)
		is(t, w, 0, world.Asleep)
		at(t, w, 0, 2, 0, x.v)
		if l := w.Sleepers(); !slices.Equal(l, []heap.Item{{At: 3 + x.ticks, ID: 0}}) {
			t.Errorf("sleep %d: %v", x.v, l)
		}
		for range x.ticks - 1 {
			if l := w.Tick(); len(l) != 0 || w.Status(0) != world.Asleep {
				t.Fatalf("sleep %d: %v at %d", x.v, l, w.Clock())
			}
		}
		if l := w.Tick(); !slices.Equal(l, []int{0}) || w.Clock() != 3+x.ticks || len(w.Sleepers()) != 0 {
			t.Errorf("sleep %d: %v at %d, %v", x.v, l, w.Clock(), w.Sleepers())
		}
		is(t, w, 0, world.Ready)
		at(t, w, 0, 2, 0, x.v)
		effect(t, w, 0, true)
	}
}

// P16.1: Tick: who wakes by their times, of one time who slept first; whatever their numbers are.
func TestTick(t *testing.T) {
	w := start(t, "func\nconst 1 3\nspawn 1 1 2\nspawn 1 1 2\nconst 1 1\nspawn 1 1 2\nconst 1 2\nspawn 1 1 2\nnop\nsleep 1\nnop\nfunc\nsleep 0\nnop\nreturn 0")
	run(t, w, 0, 0, 0, 0, 0, 0, 0)
	tick := func(want ...int) {
		t.Helper()
		if l := w.Tick(); !slices.Equal(l, want) {
			t.Errorf("Tick to %d: %v, not %v", w.Clock(), l, want)
		}
		for _, g := range want {
			is(t, w, g, world.Ready)
		}
	}
	run(t, w, 2, 1, 3)
	tick(3)
	run(t, w, 0, 0, 4)
	if l := w.Sleepers(); !slices.Equal(l, []heap.Item{{At: 3, Seq: 0, ID: 2}, {At: 3, Seq: 1, ID: 1}, {At: 3, Seq: 3, ID: 0}, {At: 3, Seq: 4, ID: 4}}) {
		t.Errorf("Sleepers: %v", l)
	}
	tick()
	is(t, w, 2, world.Asleep)
	tick(2, 1, 0, 4)
	tick()
	if w.Clock() != 4 || len(w.Sleepers()) != 0 {
		t.Errorf("%d, %v", w.Clock(), w.Sleepers())
	}
	// Who is Ready at a Tick, isn't woken once more.
	run(t, w, 3, 3, 0)
	tick()
	is(t, w, 3, world.Done)
}

// P16.1: Emit tells numbers one behind the other, whoever does.
func TestEmit(t *testing.T) {
	w := start(t, "func\nconst 1 -9223372036854775808\nspawn 1 1 2\nemit 1\nemit 2\nemit 3\nfunc\nemit 0")
	run(t, w, 0, 0)
	effect(t, w, 0, true)
	run(t, w, 0, 1, 0)
	if out := w.Out(); !slices.Equal(out, []int64{math.MinInt64, 1, math.MinInt64, 0}) {
		t.Errorf("Out: %v", out)
	}
}

// P16.1: Rand: the draw comes into A.
func TestRand(t *testing.T) {
	for _, n := range []int{1, 2, 10, 1<<40 - 1} {
		for _, v := range []int{0, n / 2, n - 1} {
			w := start(t, fmt.Sprintf("func\nrand 5 %d\nnop", n))
			check(t, w.Exec(0, drawing(t, record.Rand, n, v)), true)
			at(t, w, 0, 1, 0, 0, 0, 0, 0, int64(v))
		}
	}
}

// P16.1: Lock and Unlock: who waits has it in the order in which they came.
func TestLocks(t *testing.T) {
	w := start(t, "locks 2\nfunc\nspawn 1 0 1\nspawn 1 0 1\nlock 1\nlock 0\nunlock 1\nunlock 0\nlock 0\nnop\nfunc\nlock 0\nnop\nunlock 0\nreturn 0")
	lock := func(i, owner int, waits ...int) {
		t.Helper()
		if g, l := w.Lock(i); g != owner || !slices.Equal(l, waits) {
			t.Errorf("lock %d: %d, %v; not %d, %v", i, g, l, owner, waits)
		}
	}
	run(t, w, 0, 0)
	effect(t, w, 0, true)
	lock(1, 0)
	lock(0, -1)
	effect(t, w, 0, true)
	lock(0, 0)
	effect(t, w, 2, false)
	is(t, w, 2, world.Waiting)
	at(t, w, 2, 1)
	effect(t, w, 1, false)
	lock(0, 0, 2, 1)
	effect(t, w, 0, true)
	lock(1, -1)
	is(t, w, 2, world.Waiting)
	effect(t, w, 0, true, 2)
	is(t, w, 2, world.Ready)
	is(t, w, 1, world.Waiting)
	at(t, w, 2, 1)
	lock(0, 2, 1)
	effect(t, w, 0, false)
	lock(0, 2, 1, 0)
	run(t, w, 2)
	effect(t, w, 2, true, 1)
	lock(0, 1, 0)
	effect(t, w, 2, false)
	run(t, w, 1)
	effect(t, w, 1, true, 0)
	lock(0, 0)
	is(t, w, 0, world.Ready)
	effect(t, w, 0, true)
}

// P16.1: who has a lock, and takes it again, waits, and nobody can give it any more.
func TestLockTwice(t *testing.T) {
	w := start(t, "locks 1\nfunc\nlock 0\nlock 0\nunlock 0")
	effect(t, w, 0, true)
	effect(t, w, 0, false)
	is(t, w, 0, world.Waiting)
	if g, l := w.Lock(0); g != 0 || !slices.Equal(l, []int{0}) || !w.Stuck() {
		t.Errorf("Lock: %d, %v, %t", g, l, w.Stuck())
	}
}

// P16.1: the number of goroutines, of frames, of numbers told: just at its limit, and one more.
func TestLimits(t *testing.T) {
	w := start(t, "func\nspawn 1 0 1\njump 0\nfunc\nreturn 0")
	for g := 1; g < api.MaxG; g++ {
		effect(t, w, 0, true, g)
		run(t, w, 0)
		if g%2 == 0 {
			// Who is Done counts, too.
			run(t, w, g)
		}
	}
	ended(t, w, world.Runs, 0)
	effect(t, w, 0, false)
	ended(t, w, world.Trapped, world.TrapMany)
	if w.Len() != api.MaxG {
		t.Errorf("Len: %d", w.Len())
	}

	w = start(t, "func\nadd 0 0 0\ncall 0 0 1\nreturn 0")
	for n := 1; n < api.MaxFrame; n++ {
		run(t, w, 0)
		effect(t, w, 0, true)
		if len(w.Stack(0)) != n+1 {
			t.Errorf("Stack: %+v", w.Stack(0))
		}
	}
	run(t, w, 0)
	ended(t, w, world.Runs, 0)
	effect(t, w, 0, false)
	ended(t, w, world.Trapped, world.TrapDeep)
	if len(w.Stack(0)) != api.MaxFrame {
		t.Errorf("Stack: %+v", w.Stack(0))
	}

	w = start(t, "func\nconst 1 1\nadd 2 2 1\nemit 2\njump 1")
	run(t, w, 0)
	for range api.MaxOut {
		run(t, w, 0)
		effect(t, w, 0, true)
		run(t, w, 0)
	}
	run(t, w, 0)
	ended(t, w, world.Runs, 0)
	effect(t, w, 0, false)
	ended(t, w, world.Trapped, world.TrapOut)
	if out := w.Out(); len(out) != api.MaxOut || out[0] != 1 || out[api.MaxOut-1] != api.MaxOut {
		t.Errorf("Out: %d, %v", len(out), out[:1])
	}
}

// P16.1: a stack of 16 frames can be called from again, when one has returned.
func TestDeepAgain(t *testing.T) {
	w := start(t, "func\nconst 7 14\ncall 1 7 1\nreturn 0\nfunc\nconst 6 1\nif 0 3\nreturn 0\nsub 0 0 6\ncall 1 0 2\ncall 2 0 3\nreturn 0\nfunc\nreturn 0")
	for range 1000 {
		w.Exec(0, undrawn)
	}
	ended(t, w, world.Halted, 0)
}

// traps is texts of function 0 that trap at the last instruction that is done: with which number.
func traps() map[string]int {
	return map[string]int{
		"trap 0": 0, "nop\ntrap 5": 5, "trap 1048575": 1048575,
		"unlock 0":                   world.TrapUnlock,
		"lock 1\nunlock 0":           world.TrapUnlock,
		"lock 0\nunlock 0\nunlock 0": world.TrapUnlock,
		"close 0\nclose 0":           world.TrapClose,
		"send 1 7\nclose 1\nclose 1": world.TrapClose,
		"close 0\nsend 0 0":          world.TrapSend,
		"close 1\nsend 1 0":          world.TrapSend,
		"nop":                        world.TrapEnd,
		"lock 0\nlock 1\nyield\njump 4\nconst 1 -1": world.TrapEnd,
	}
}

// P16.1: each trap: with its number, a zero Effect; nothing changes but that At is one more (not of TrapEnd).
func TestTraps(t *testing.T) {
	for text, why := range traps() {
		w := start(t, "chan 0\nchan 1\nlocks 2\nfunc\n"+text+"\nfunc\nnop")
		var v view
		for range 20 {
			if end, _ := w.End(); end != world.Runs {
				break
			}
			v = look(w)
			w.Exec(0, undrawn)
		}
		v.End, v.Why = world.Trapped, why
		if why != world.TrapEnd {
			v.Stacks[0].Top().At++
		}
		stays(t, text, w, fmt.Sprintf("%+v", v))
		is(t, w, 0, world.Ready)
	}
}

// trapped: the goroutine's next instruction traps, by some draw, and changes nothing but At.
func trapped(t *testing.T, w *world.World, g, why int, draw func(kind, n int) int) {
	t.Helper()
	v := look(w)
	v.End, v.Why, v.Stuck = world.Trapped, why, false
	v.Stacks[g].Top().At++
	check(t, w.Exec(g, draw), false)
	stays(t, "a trap", w, fmt.Sprintf("%+v", v))
}

// P16.1: a lock that another one has; one for which others wait.
func TestTrapUnlockOfAnother(t *testing.T) {
	text := "locks 1\nfunc\nlock 0\nspawn 1 0 0\nspawn 2 0 0\nnop\nfunc\nlock 0\nfunc\nunlock 0"
	w := start(t, text)
	run(t, w, 0, 0, 0)
	trapped(t, w, 2, world.TrapUnlock, undrawn)
	w = start(t, text)
	run(t, w, 0, 0, 0, 1)
	trapped(t, w, 2, world.TrapUnlock, undrawn)
}

// P16.1: a trap of one that isn't goroutine 0, and of one that was called.
func TestTrapsOfOthers(t *testing.T) {
	w := start(t, "func\nspawn 1 0 1\nnop\nfunc\ncall 2 0 1\nnop\nfunc\ntrap 33")
	run(t, w, 0, 1)
	trapped(t, w, 1, 33, undrawn)

	w = start(t, "func\nspawn 1 0 1\nnop\nfunc\ncall 2 0 1\nfunc\nreturn 0")
	run(t, w, 0, 1, 1)
	// There is no instruction behind the call.
	ahead := look(w)
	ahead.End, ahead.Why = world.Trapped, world.TrapEnd
	effect(t, w, 1, false)
	stays(t, "TrapEnd", w, fmt.Sprintf("%+v", ahead))
}

// P16.1: what a trap at a limit leaves.
func TestTrapsAtLimits(t *testing.T) {
	for _, x := range []struct {
		text       string
		ahead, why int
	}{
		{"func\nconst 3 5\nspawn 1 3 3\njump 0\nfunc\nnop", 3*(api.MaxG-1) + 1, world.TrapMany},
		{"func\nconst 3 5\ncall 0 3 3\nreturn 3", 2*(api.MaxFrame-1) + 1, world.TrapDeep},
		{"func\nconst 3 5\nemit 3\njump 0", 3*api.MaxOut + 1, world.TrapOut},
	} {
		w := start(t, x.text)
		for range x.ahead {
			run(t, w, 0)
		}
		trapped(t, w, 0, x.why, undrawn)
	}
}

// P16.1: Close of a channel where somebody waits to send: it is closed, nobody waits there any more, nobody goes on, whoever waited to receive.
func TestTrapSendByClose(t *testing.T) {
	// 1 waits to send and to receive at channel 0, and at channel 1; 2 waits to send to channel 0.
	w := start(t, "chan 0\nchan 0\nrecv 0 1\nsend 0 1\nrecv 1 2\nfunc\nspawn 1 0 0\nspawn 2 0 0\nclose 0\nnop\nfunc\nselect 0 3 5\nnop\nfunc\nselect 1 1 3\nnop")
	run(t, w, 0, 0, 1)
	if s := w.Chan(0); len(s.Receivers) != 1 || len(s.Senders) != 1 {
		t.Fatalf("Chan: %+v", s)
	}
	v := look(w)
	v.End, v.Why = world.Trapped, world.TrapSend
	v.Stacks[0].Top().At++
	v.Chans[0] = chans.State{Closed: true}
	effect(t, w, 0, false)
	stays(t, "Close", w, fmt.Sprintf("%+v", v))
	is(t, w, 1, world.Waiting)

	// With a buffer, whose numbers stay.
	w = start(t, "chan 1\nfunc\nconst 1 8\nspawn 1 1 0\nsend 0 1\nclose 0\nfunc\nsend 0 0")
	run(t, w, 0, 0, 0, 1)
	v = look(w)
	v.End, v.Why = world.Trapped, world.TrapSend
	v.Stacks[0].Top().At++
	v.Chans[0] = chans.State{Buffer: []int64{8}, Closed: true}
	effect(t, w, 0, false)
	stays(t, "Close", w, fmt.Sprintf("%+v", v))
}
