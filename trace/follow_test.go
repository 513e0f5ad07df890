package trace_test

import (
	"math"
	"slices"
	"testing"

	"shunter/asm"
	"shunter/snap"
	"shunter/trace"
	"shunter/world"
)

// following is a Follow, and what it must come to.
type following struct {
	name, text string
	moves      []trace.Move
	made       int
	then       []trace.Move // what comes to the same world, each of which can be made
}

// holds holds them against each other.
func (f following) holds(t *testing.T) {
	t.Helper()
	p := program(t, f.text)
	w, made := trace.Follow(p, f.moves)
	still, all := trace.Follow(p, f.then)
	if made != f.made || all != len(f.then) {
		t.Errorf("%s: %d were made, not %d (and %d of %d)", f.name, made, f.made, all, len(f.then))
	}
	if got, want := snap.World(w, 8, 8), snap.World(still, 8, 8); !slices.Equal(got, want) {
		t.Errorf("%s: %v, not %v", f.name, got, want)
	}
}

// P20.1: no moves come to a new world.
func TestFollowNothing(t *testing.T) {
	p := program(t, "chan 1\nlocks 1\nfunc\nnop")
	for _, moves := range [][]trace.Move{nil, {}} {
		w, made := trace.Follow(p, moves)
		if made != 0 || !slices.Equal(snap.World(w, 1, 1), snap.World(world.New(p), 1, 1)) {
			t.Errorf("%d moves, %v", made, snap.World(w, 1, 1))
		}
	}
}

// P20.1: moves are made one behind the other; each does what the world's call does.
func TestFollow(t *testing.T) {
	p := program(t, "chan 0\nlocks 1\nrecv 0 1\nfunc\nspawn 1 0 1\nlock 0\nselect 0 1 2\nemit 1\nunlock 0\nreturn 0\nfunc\nconst 2 2\nsleep 2\nrand 3 9\nsend 0 3\nreturn 0")
	moves := []trace.Move{by(0, 0), by(1, 0), by(0, 0), by(1, 0), tick, by(0, 0), tick, by(1, 7), by(1, 0), by(0, 0), by(1, 0), by(0, 0), by(0, 0)}
	outs, clocks := []int{0, 0, 0, 0, 0, 0, 0, 0, 0, 0, 1, 1, 1, 1}, []int{0, 0, 0, 0, 0, 1, 1, 2, 2, 2, 2, 2, 2, 2}
	for n := range len(moves) + 1 {
		w, made := trace.Follow(p, moves[:n])
		end, _ := w.End()
		if made != n || len(w.Out()) != outs[n] || w.Clock() != uint64(clocks[n]) || (end == world.Halted) != (n == len(moves)) {
			t.Errorf("%d moves: %d, told %v, at %d, end %d", n, made, w.Out(), w.Clock(), end)
		}
	}
	if w, _ := trace.Follow(p, moves); !slices.Equal(w.Out(), []int64{7}) {
		t.Errorf("told: %v", w.Out())
	}
}

// P20.1: not all Runs any more: neither an instruction nor the clock can go on.
func TestFollowBehindTheEnd(t *testing.T) {
	for _, text := range []string{"func\nspawn 1 0 1\nreturn 0\nfunc\nnop", "func\nspawn 1 0 1\ntrap 3\nfunc\nnop", "func\nspawn 1 0 1\nfunc\nnop"} {
		end := []trace.Move{by(0, 0), by(0, 0)}
		for _, next := range []trace.Move{by(0, 0), by(1, 0), by(2, 0), by(-1, 0), tick, {Tick: true}, by(1, 3)} {
			for behind := range 3 {
				moves := append(slices.Clone(end), slices.Repeat([]trace.Move{next}, behind)...)
				following{text, text, moves, 2, end}.holds(t)
			}
		}
	}
}

// P20.1: a goroutine that isn't there, or isn't Ready, does nothing; what stands behind its move isn't made.
func TestFollowNobody(t *testing.T) {
	text := "chan 0\nfunc\nconst 2 3\nspawn 1 2 1\nspawn 2 2 1\nspawn 3 2 1\nnop\nnop\nfunc\nrecv 0 1 2\nfunc\nsleep 0\nfunc\nreturn 0"
	ahead := []trace.Move{by(0, 0), by(0, 0), by(0, 0), by(0, 0), by(1, 0), by(2, 0), by(3, 0)}
	for _, g := range []int{-1, -2, math.MinInt, 1, 2, 3, 4, 5, 99, 100, 1 << 32, math.MaxInt} {
		following{"nobody", text, slices.Concat(ahead, []trace.Move{by(g, 0), by(0, 0), tick}), len(ahead), ahead}.holds(t)
		following{"nobody, by a draw", text, slices.Concat(ahead, []trace.Move{by(g, 1), by(0, 0)}), len(ahead), ahead}.holds(t)
	}
	following{"nobody yet", text, []trace.Move{by(1, 0), by(0, 0)}, 0, nil}.holds(t)
	// Whoever woke is Ready again.
	woken := slices.Concat(ahead, []trace.Move{tick, tick, tick, by(2, 0)})
	following{"somebody who woke", text, woken, len(woken), woken}.holds(t)
	following{"somebody who sleeps still", text, slices.Concat(ahead, []trace.Move{tick, tick, by(2, 0)}), len(ahead) + 2, woken[:len(ahead)+2]}.holds(t)
}

// P20.1: a Draw that there isn't: the instruction is done by the nearest that there is, the move isn't counted, and those behind it aren't made.
func TestFollowADrawThatIsNot(t *testing.T) {
	lone := "func\nrand 1 10\nemit 1\nrand 2 1\nemit 2"
	several := "chan 9\nchan 9\nchan 9\nsend 0 0\nrecv 1 1\nsend 1 0\nsend 2 0\nfunc\nselect 0 4 2\nemit 2"
	for _, c := range []struct {
		text string
		n    int
	}{{lone, 10}, {several, 3}} {
		for draw := range c.n {
			following{"one that there is", c.text, []trace.Move{by(0, draw), by(0, 0)}, 2, []trace.Move{by(0, draw), by(0, 0)}}.holds(t)
		}
		for _, draw := range []int{c.n, c.n + 1, 2 * c.n, 1 << 32, 1 << 40, math.MaxInt} {
			following{"beyond", c.text, []trace.Move{by(0, draw), by(0, 0)}, 0, []trace.Move{by(0, c.n-1)}}.holds(t)
		}
		for _, draw := range []int{-1, -2, -c.n, -1 << 32, math.MinInt + 1, math.MinInt} {
			following{"below 0", c.text, []trace.Move{by(0, draw), by(0, 0)}, 0, []trace.Move{by(0, 0)}}.holds(t)
		}
	}
	w, _ := trace.Follow(program(t, several), []trace.Move{by(0, 3)})
	if w.Stack(0).Top().R[2] != 3 || len(w.Chan(2).Buffer) != 1 {
		t.Errorf("the last case that can go: %+v", w.Stack(0))
	}
	ahead := []trace.Move{by(0, 4), by(0, 0)}
	following{"of one alone", lone, append(ahead, by(0, 1), by(0, 0)), 2, append(ahead, by(0, 0))}.holds(t)
	following{"of one alone, below", lone, append(ahead, by(0, -1), tick), 2, append(ahead, by(0, 0))}.holds(t)
}

// P20.1: where nothing is drawn it says nothing what Draw is; the clock's G and Draw don't, either.
func TestFollowADrawWhereNothingIsDrawn(t *testing.T) {
	texts := []string{
		"func\nnop", "func\nconst 1 5\nconst 1 6", "func\ncall 0 0 0", "func\nspawn 0 0 0", "func\nemit 0\nemit 0", "func\nyield", "func\nsleep 0",
		"chan 1\nfunc\nsend 0 0", "chan 1\nfunc\nrecv 0 0 0", "chan 1\nfunc\nclose 0", "locks 1\nfunc\nlock 0", "locks 1\nfunc\nunlock 0", "func\ntrap 5", "func\nreturn 0",
		"chan 0\nsend 0 0\nfunc\nselect 0 1 0",       // it waits
		"chan 0\nsend 0 0\nelse\nfunc\nselect 0 2 0", // it goes by the else
	}
	for _, text := range texts {
		for _, draw := range []int{-1, 1, 2, math.MinInt, math.MaxInt} {
			following{text, text, []trace.Move{by(0, draw)}, 1, []trace.Move{by(0, 0)}}.holds(t)
			following{text, text, []trace.Move{{Tick: true, G: 0, Draw: draw}, by(0, 0)}, 2, []trace.Move{tick, by(0, 0)}}.holds(t)
			following{text, text, []trace.Move{{Tick: true, G: draw, Draw: draw}, by(0, 0)}, 2, []trace.Move{tick, by(0, 0)}}.holds(t)
		}
	}
}

// P20.1: the clock goes on, also where nobody wakes, and where nobody can go on.
func TestFollowTheClock(t *testing.T) {
	for _, text := range []string{"func\nnop", "chan 0\nfunc\nsend 0 0", "locks 1\nfunc\nlock 0"} {
		w, made := trace.Follow(program(t, text), []trace.Move{tick, by(0, 0), tick, tick})
		if made != 4 || w.Clock() != 3 {
			t.Errorf("%q: %d moves, at %d", text, made, w.Clock())
		}
	}
	p := program(t, "func\nconst 1 2\nsleep 1\nnop")
	moves := []trace.Move{by(0, 0), by(0, 0), tick, tick, by(0, 0)}
	if w, made := trace.Follow(p, moves); made != 5 || w.Clock() != 2 || w.Status(0) != world.Ready {
		t.Errorf("%d moves, at %d, status %d", made, w.Clock(), w.Status(0))
	}
}

// P20.1: an instruction that ends all can be made; so can one that isn't there, as it traps.
func TestFollowTheLastOne(t *testing.T) {
	for text, why := range map[string]int{"func\ntrap 7": 7, "func\nnop": world.TrapEnd, "locks 1\nfunc\nunlock 0": world.TrapUnlock} {
		moves := slices.Repeat([]trace.Move{by(0, 0)}, 3)
		want := 1
		if why == world.TrapEnd {
			want = 2
		}
		w, made := trace.Follow(program(t, text), moves)
		if end, got := w.End(); made != want || end != world.Trapped || got != why {
			t.Errorf("%q: %d moves, %d, %d", text, made, end, got)
		}
	}
}

// K3: the program and the moves stay as they are, and aren't kept; each world goes its own way.
func TestFollowKeepsNothing(t *testing.T) {
	const text = "chan 1\nrecv 0 1\nsend 0 0\nfunc\nselect 0 2 2\nselect 0 2 2\nemit 2\nreturn 0\n"
	p := program(t, text)
	moves := []trace.Move{by(0, 0), by(0, 0)}
	a, _ := trace.Follow(p, moves)
	b, _ := trace.Follow(p, moves)
	if asm.Text(p) != text || !slices.Equal(moves, []trace.Move{by(0, 0), by(0, 0)}) {
		t.Errorf("%s, %v", asm.Text(p), moves)
	}
	ahead := snap.World(b, 1, 0)
	p.Funcs[0][2].Op, p.Cases[0].Reg = 0, 5
	clear(moves)
	a.Exec(0, nil)
	a.Exec(0, nil)
	if end, _ := a.End(); end != world.Halted || len(a.Out()) != 1 || !slices.Equal(snap.World(b, 1, 0), ahead) {
		t.Errorf("end %d, %v; the other one %v, not %v", end, a.Out(), snap.World(b, 1, 0), ahead)
	}
}
