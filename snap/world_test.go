package snap_test

import (
	"math"
	"slices"
	"strconv"
	"strings"
	"testing"

	"shunter/api"
	"shunter/asm"
	"shunter/code"
	"shunter/snap"
	"shunter/world"
)

// program is a text's.
func program(t *testing.T, text string) code.Program {
	t.Helper()
	p, line, err := asm.Parse(text)
	if err != api.OK {
		t.Fatalf("%q: line %d, error %d", text, line, err)
	}
	return p
}

// after is a text's world, behind some moves, with blanks between: "t" is the clock's, "3" an instruction of goroutine 3, "3=7" one that draws 7, "3*9" nine that draw nothing.
func after(t *testing.T, text, moves string) *world.World {
	t.Helper()
	w := world.New(program(t, text))
	for _, m := range strings.Fields(moves) {
		if m == "t" {
			w.Tick()
			continue
		}
		who, times, _ := strings.Cut(m, "*")
		who, answer, draws := strings.Cut(who, "=")
		for range max(int(number(times)), 1) {
			does(t, w, int(number(who)), draws, int(number(answer)))
		}
	}
	return w
}

// number is one by tens; of an empty text 0.
func number(text string) int64 {
	n, _ := strconv.ParseInt(text, 10, 64)
	return n
}

// does: a goroutine that can go on does its next instruction, by just one draw, or by none.
func does(t *testing.T, w *world.World, g int, draws bool, answer int) {
	t.Helper()
	if end, _ := w.End(); end != world.Runs || w.Status(g) != world.Ready {
		t.Fatalf("goroutine %d can't go on", g)
	}
	drawn := false
	w.Exec(g, func(kind, n int) int {
		drawn = true
		if answer >= n {
			t.Fatalf("goroutine %d can't draw %d", g, answer)
		}
		return answer
	})
	if drawn != draws {
		t.Fatalf("goroutine %d: does it draw? %t", g, drawn)
	}
}

// row is some numbers, one behind the other.
func row(l ...int64) []int64 { return l }

// one is a frame's numbers; the registers that aren't told are 0.
func one(fun, at, into int64, regs ...int64) []int64 {
	return slices.Concat(row(fun, at), regs, make([]int64, api.Regs-len(regs)), row(into))
}

// lone is the numbers of a goroutine with one frame.
func lone(status, fun, at int64, regs ...int64) []int64 {
	return append(row(status, 1), one(fun, at, 0, regs...)...)
}

// idle is the numbers of so many channels that are empty, and then of so many locks that nobody has.
func idle(channels, locks int) []int64 {
	return slices.Concat(make([]int64, 4*channels), slices.Repeat(row(-1, 0), locks))
}

// tells holds a world's numbers against what they must be.
func tells(t *testing.T, name string, w *world.World, channels, locks int, parts ...[]int64) {
	t.Helper()
	want := slices.Concat(parts...)
	if got := snap.World(w, channels, locks); !slices.Equal(got, want) {
		t.Errorf("%s: World:\n%v, not\n%v", name, got, want)
	}
}

// P19.1: how all is, the clock, and a lone goroutine.
func TestWorldOfOne(t *testing.T) {
	for _, c := range []struct {
		name, text, moves string
		end, trap, clock  int64
		stack             []int64 // and the status ahead of it
		behind            []int64
	}{
		{"a new one", "func\nnop", "", 0, 0, 0, lone(1, 0, 0), row(0, 0)},
		{"ticks", "func\nnop", "t t 0 t", 0, 0, 3, lone(1, 0, 1), row(0, 0)},
		{"registers", "func\nconst 0 5\nconst 3 -7\nconst 7 1099511627776", "0*3", 0, 0, 0, lone(1, 0, 3, 5, 0, 0, -7, 0, 0, 0, 1<<40), row(0, 0)},
		{"it is halted", "func\nconst 2 9\nreturn 2", "0 t 0", 1, 0, 1, lone(4, 0, 2, 0, 0, 9), row(0, 0)},
		{"it trapped with 0", "func\nnop\ntrap 0", "0*2", 2, 0, 0, lone(1, 0, 2), row(0, 0)},
		{"it trapped with the greatest", "func\ntrap 1048575", "0", 2, 1<<20 - 1, 0, lone(1, 0, 1), row(0, 0)},
		{"a lock is given by one that hasn't it", "locks 1\nfunc\nunlock 0", "0", 2, world.TrapUnlock, 0, lone(1, 0, 1), row(0, 0)},
		{"no instruction", "func\nnop", "0*2", 2, world.TrapEnd, 0, lone(1, 0, 1), row(0, 0)},
		{"it sleeps", "func\nconst 1 3\nsleep 1", "t 0*2 t", 0, 0, 2, lone(3, 0, 2, 0, 3), row(1, 4, 0, 0, 0)},
		{"it woke", "func\nconst 1 3\nsleep 1", "0*2 t t t", 0, 0, 3, lone(1, 0, 2, 0, 3), row(0, 0)},
		{"told", "func\nconst 1 -1\nemit 1\nemit 0\nemit 1", "0*4", 0, 0, 0, lone(1, 0, 4, 0, -1), row(0, 3, -1, 0, -1)},
	} {
		tells(t, c.name, after(t, c.text, c.moves), 0, 0, row(c.end, c.trap, c.clock, 1), c.stack, c.behind)
	}
}

// P19.1: each number with which an instruction traps, and that of TrapOut behind as much as can be told.
func TestWorldOfTraps(t *testing.T) {
	for _, c := range []struct {
		text, moves string
		trap        int64
	}{
		{"chan 1\nfunc\nclose 0\nsend 0 1", "0*2", -1},
		{"chan 1\nfunc\nclose 0\nclose 0", "0*2", -2},
		{"locks 1\nfunc\nunlock 0", "0", -3},
		{"func\ncall 0 0 0", "0*16", -4},
		{"func\nspawn 0 0 0\njump 0", "0*199", -5},
		{"func\nemit 0\njump 0", "0*2001", -6},
		{"func\nnop", "0*2", -7},
		{"func\ntrap 1", "0", 1},
	} {
		w := after(t, c.text, c.moves)
		l := snap.World(w, 0, 0)
		if l[0] != world.Trapped || l[1] != c.trap {
			t.Errorf("%q: %v", c.text, l[:2])
		}
		if out := w.Out(); !slices.Equal(l[len(l)-1-len(out):], append(row(int64(len(out))), out...)) || c.trap == world.TrapOut && len(out) != api.MaxOut {
			t.Errorf("%q: told: %v", c.text, l)
		}
	}
}

// P19.1: stacks of one frame and of several, each with its function, place, registers, and into which it returns.
func TestWorldOfFrames(t *testing.T) {
	text := "func\nconst 1 4\ncall 1 1 3\nreturn 3\nfunc\nconst 2 6\ncall 2 2 5\nreturn 5\nfunc\nconst 1 8\nreturn 1"
	tells(t, "three", after(t, text, "0*5"), 0, 0, row(0, 0, 0, 1, 1, 3), one(0, 2, 0, 0, 4), one(1, 2, 3, 4, 0, 6), one(2, 1, 5, 6, 8), row(0, 0))
	tells(t, "two", after(t, text, "0*6"), 0, 0, row(0, 0, 0, 1, 1, 2), one(0, 2, 0, 0, 4), one(1, 2, 3, 4, 0, 6, 0, 0, 8), row(0, 0))
	tells(t, "one", after(t, text, "0*7"), 0, 0, row(0, 0, 0, 1), lone(1, 0, 2, 0, 4, 0, 8), row(0, 0))
	deep := after(t, "func\nadd 1 1 0\nconst 2 1\nadd 0 0 2\ncall 0 0 7", "0*60")
	frames := one(0, 4, 0, 1, 0, 1)
	for i := range int64(14) {
		frames = append(frames, one(0, 4, 7, i+2, i+1, 1)...)
	}
	frames = append(frames, one(0, 0, 7, 15)...)
	tells(t, "sixteen", deep, 0, 0, row(0, 0, 0, 1, 1, 16), frames, row(0, 0))
}

// P19.1: several goroutines, each of another status.
func TestWorldOfStatuses(t *testing.T) {
	text := "chan 0\nfunc\nconst 1 5\nspawn 1 1 2\nspawn 2 1 2\nspawn 3 1 2\nnop\nfunc\nrecv 0 1 2\nfunc\nsleep 0\nfunc\nreturn 0"
	w := after(t, text, "0*4 1 2 3")
	tells(t, "statuses", w, 1, 0, row(0, 0, 0, 4),
		lone(1, 0, 4, 0, 5, 3), lone(2, 1, 1, 5), lone(3, 2, 1, 5), lone(4, 3, 1, 5),
		row(0, 0, 0, 1, 1, 0, 0), // its receivers: goroutine 1
		row(1, 5, 0, 2),          // goroutine 2 sleeps until 5
		row(0))
}

// P19.1: a channel's buffer, those that wait to send and to receive, several of them, with their cases; a closed one, a full one.
func TestWorldOfChannels(t *testing.T) {
	senders := "chan 0\nfunc\nspawn 1 0 1\nspawn 1 1 1\nspawn 1 1 1\nnop\nfunc\nsend 0 0"
	tells(t, "senders", after(t, senders, "0*3 3 1 2"), 1, 0, row(0, 0, 0, 4),
		lone(1, 0, 3, 0, 3), lone(2, 1, 1, 0), lone(2, 1, 1, 1), lone(2, 1, 1, 2),
		row(0, 0, 3, 3, 0, 2, 1, 0, 0, 2, 0, 1, 0), row(0, 0))
	receivers := "chan 1\nfunc\nspawn 1 0 1\nspawn 1 0 1\nspawn 1 0 1\nnop\nfunc\nrecv 0 1 2"
	tells(t, "receivers", after(t, receivers, "0*3 2 3 1"), 1, 0, row(0, 0, 0, 4),
		lone(1, 0, 3, 0, 3), lone(2, 1, 1), lone(2, 1, 1), lone(2, 1, 1),
		row(0, 0, 0, 3, 2, 0, 0, 3, 0, 0, 1, 0, 0), row(0, 0))
	full := "chan 2\nfunc\nconst 1 7\nsend 0 1\nconst 1 8\nsend 0 1\nconst 1 9\nsend 0 1"
	tells(t, "full", after(t, full, "0*6"), 1, 0, row(0, 0, 0, 1), lone(2, 0, 6, 0, 9), row(0, 2, 7, 8, 1, 0, 0, 9, 0), row(0, 0))
	tells(t, "not full yet", after(t, full, "0*3"), 1, 0, row(0, 0, 0, 1), lone(1, 0, 3, 0, 8), row(0, 1, 7, 0, 0), row(0, 0))
	closed := "chan 1\nchan 0\nfunc\nsend 0 0\nclose 0\nclose 1"
	tells(t, "one closed", after(t, closed, "0*2"), 2, 0, row(0, 0, 0, 1), lone(1, 0, 2), row(1, 1, 0, 0, 0, 0, 0, 0, 0), row(0, 0))
	tells(t, "both closed", after(t, closed, "0*3"), 2, 0, row(0, 0, 0, 1), lone(1, 0, 3), row(1, 1, 0, 0, 0, 1, 0, 0, 0), row(0, 0))
}

// P19.1: one that waits by a select at several channels, at one of them twice.
func TestWorldOfASelect(t *testing.T) {
	text := "chan 0\nchan 0\nchan 0\nrecv 0 1\nsend 2 4\nrecv 2 1\nrecv 0 2\nfunc\nspawn 1 0 1\nrecv 2 1 2\nfunc\nconst 4 -6\nselect 0 4 5"
	tells(t, "a select", after(t, text, "0 1*2"), 3, 0, row(0, 0, 0, 2),
		lone(1, 0, 1, 0, 1), lone(2, 1, 2, 0, 0, 0, 0, -6),
		row(0, 0, 0, 2, 1, 0, 0, 1, 3, 0), row(0, 0, 0, 0), row(0, 0, 1, 1, 1, -6, 1, 1, 2, 0), row(0, 0))
	tells(t, "it went on", after(t, text, "0 1*2 0"), 3, 0, row(0, 0, 0, 2),
		lone(1, 0, 2, 0, -6, 1), lone(1, 1, 2, 0, 0, 0, 0, -6, 1), idle(3, 0), row(0, 0))
}

// P19.1: a lock that nobody has, that one has, for which several wait, one of them who has it.
func TestWorldOfLocks(t *testing.T) {
	text := "locks 3\nfunc\nlock 1\nspawn 1 0 1\nspawn 1 0 1\nlock 1\nfunc\nlock 1"
	tells(t, "taken", after(t, text, "0"), 0, 3, row(0, 0, 0, 1), lone(1, 0, 1), row(-1, 0, 0, 0, -1, 0), row(0, 0))
	tells(t, "three wait", after(t, text, "0*3 2 0 1"), 0, 3, row(0, 0, 0, 3),
		lone(2, 0, 4, 0, 2), lone(2, 1, 1), lone(2, 1, 1), row(-1, 0, 0, 3, 2, 0, 1, -1, 0), row(0, 0))
}

// P19.1: sleepers in the order in which they wake, also those of the same time.
func TestWorldOfSleepers(t *testing.T) {
	text := "func\nconst 1 3\nspawn 1 1 2\nspawn 1 1 2\nconst 1 1\nspawn 1 1 2\nsleep 1\nfunc\nsleep 0"
	tells(t, "sleepers", after(t, text, "0*5 2 1 t 3"), 0, 0, row(0, 0, 1, 4),
		lone(1, 0, 5, 0, 1, 3), lone(3, 1, 1, 3), lone(3, 1, 1, 3), lone(3, 1, 1, 1),
		row(3, 2, 2, 3, 3, 0, 2, 3, 1, 1), row(0))
	long := after(t, "func\nconst 1 1099511627776\nsleep 1", "t 0*2")
	tells(t, "as long as can be", long, 0, 0, row(0, 0, 1, 1), lone(3, 0, 2, 0, 1<<40), row(1, 1+1<<20, 0, 0, 0))
}

// P19.1: of how many channels, and locks, it is told: none, less than there are, as many, more.
func TestWorldOfHowMany(t *testing.T) {
	text := "chan 1\nchan 2\nlocks 2\nfunc\nconst 1 7\nsend 0 1\nsend 1 1\nclose 1\nlock 0\nlock 1"
	w := after(t, text, "0*6")
	head := slices.Concat(row(0, 0, 0, 1), lone(1, 0, 6, 0, 7))
	channels := [][]int64{{0, 1, 7, 0, 0}, {1, 1, 7, 0, 0}, {0, 0, 0, 0}, {0, 0, 0, 0}}
	locks := [][]int64{{0, 0}, {0, 0}, {-1, 0}, {-1, 0}, {-1, 0}}
	for n := range len(channels) + 1 {
		for m := range len(locks) + 1 {
			tells(t, "how many", w, n, m, head, slices.Concat(channels[:n]...), slices.Concat(locks[:m]...), row(0, 0))
		}
	}
	for _, below := range []int{-1, -2, math.MinInt32, math.MinInt} {
		tells(t, "below 0", w, below, below, head, row(0, 0))
		tells(t, "channels below 0", w, below, 1, head, row(0, 0), row(0, 0))
		tells(t, "locks below 0", w, 1, below, head, row(0, 1, 7, 0, 0), row(0, 0))
	}
	tells(t, "many more", w, 1000, 2000, head, channels[0], channels[1], idle(998, 0), locks[0], locks[1], idle(0, 1998), row(0, 0))
	tells(t, "of none", after(t, "func\nnop", ""), 8, 8, row(0, 0, 0, 1), lone(1, 0, 0), idle(8, 8), row(0, 0))
}

// P1: a World that New didn't make has nobody.
func TestZeroWorld(t *testing.T) {
	tells(t, "a zero World", &world.World{}, 1, 1, row(0, 0, 0, 0), idle(1, 1), row(0, 0))
}
