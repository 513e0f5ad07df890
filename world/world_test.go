package world_test

import (
	"fmt"
	"slices"
	"testing"

	"shunter/api"
	"shunter/asm"
	"shunter/chans"
	"shunter/code"
	"shunter/frame"
	"shunter/heap"
	"shunter/locks"
	"shunter/world"
)

// program is a text's.
func program(t *testing.T, text string) code.Program {
	t.Helper()
	p, line, err := asm.Parse(text)
	if err != api.OK {
		t.Fatalf("%q: line %d, error %d", text, line, err)
	}
	return p
}

func start(t *testing.T, text string) *world.World {
	t.Helper()
	return world.New(program(t, text))
}

// undrawn is the draw of instructions that need none.
func undrawn(kind, n int) int {
	panic(fmt.Sprintf("a draw of kind %d, below %d", kind, n))
}

// drawing answers a number, and holds what is asked against a kind and how many there are.
func drawing(t *testing.T, kind, n, answer int) func(int, int) int {
	t.Helper()
	return func(gotKind, gotN int) int {
		t.Helper()
		if gotKind != kind || gotN != n {
			t.Errorf("drawn: kind %d, below %d; not kind %d, below %d", gotKind, gotN, kind, n)
		}
		return answer
	}
}

// run: each does an instruction that draws nothing, whatever comes of it.
func run(t *testing.T, w *world.World, gs ...int) {
	t.Helper()
	for _, g := range gs {
		if w.Status(g) != world.Ready {
			t.Fatalf("goroutine %d isn't Ready, but %d", g, w.Status(g))
		}
		w.Exec(g, undrawn)
	}
}

// effect holds what an instruction, that draws nothing, comes to against what it should.
func effect(t *testing.T, w *world.World, g int, keep bool, ready ...int) {
	t.Helper()
	check(t, w.Exec(g, undrawn), keep, ready...)
}

func check(t *testing.T, e world.Effect, keep bool, ready ...int) {
	t.Helper()
	if e.Keep != keep || !slices.Equal(e.Ready, ready) {
		t.Errorf("Effect: %+v, not %t, %v", e, keep, ready)
	}
}

// ended: is all as it should be at its end?
func ended(t *testing.T, w *world.World, how, why int) {
	t.Helper()
	if end, number := w.End(); end != how || number != why {
		t.Errorf("End: %d, %d; not %d, %d", end, number, how, why)
	}
}

// is: has a goroutine that status?
func is(t *testing.T, w *world.World, g, status int) {
	t.Helper()
	if w.Status(g) != status {
		t.Errorf("goroutine %d: status %d, not %d", g, w.Status(g), status)
	}
}

// at: is a goroutine's last frame at that place, with these registers (and 0 in the others)?
func at(t *testing.T, w *world.World, g, place int, regs ...int64) {
	t.Helper()
	want := frame.Frame{At: place}
	copy(want.R[:], regs)
	top := *w.Stack(g).Top()
	top.Func, top.Into = 0, 0
	if top != want {
		t.Errorf("goroutine %d: %+v, not %+v", g, top, want)
	}
}

// view is all that a world shows.
type view struct {
	Status   []int
	Stacks   []frame.Stack
	End, Why int
	Clock    uint64
	Out      []int64
	Chans    []chans.State
	Owners   []int
	Waits    [][]int
	Sleepers []heap.Item
	Stuck    bool
}

// look is what a world shows, with as many channels, and locks, as there may be at most.
func look(w *world.World) view {
	v := view{Clock: w.Clock(), Out: w.Out(), Sleepers: w.Sleepers(), Stuck: w.Stuck()}
	v.End, v.Why = w.End()
	for g := range w.Len() {
		v.Status = append(v.Status, w.Status(g))
		v.Stacks = append(v.Stacks, w.Stack(g))
	}
	for i := range api.MaxChan {
		v.Chans = append(v.Chans, w.Chan(i))
	}
	for i := range api.MaxLock {
		owner, waits := w.Lock(i)
		v.Owners = append(v.Owners, owner)
		v.Waits = append(v.Waits, waits)
	}
	return v
}

// show tells all that a world shows; lists that are nil, and those without anything, read the same.
func show(w *world.World) string {
	return fmt.Sprintf("%+v", look(w))
}

// alike: is one as the other one?
func alike(a, b view) bool {
	channels := func(a, b chans.State) bool {
		return slices.Equal(a.Buffer, b.Buffer) && slices.Equal(a.Senders, b.Senders) && slices.Equal(a.Receivers, b.Receivers) && a.Closed == b.Closed
	}
	return slices.Equal(a.Status, b.Status) && slices.EqualFunc(a.Stacks, b.Stacks, slices.Equal) && slices.Equal(a.Out, b.Out) &&
		a.End == b.End && a.Why == b.Why && a.Clock == b.Clock && a.Stuck == b.Stuck && slices.Equal(a.Sleepers, b.Sleepers) &&
		slices.EqualFunc(a.Chans, b.Chans, channels) && slices.Equal(a.Owners, b.Owners) && slices.EqualFunc(a.Waits, b.Waits, slices.Equal)
}

// stays: is all as it was?
func stays(t *testing.T, what string, w *world.World, ahead string) {
	t.Helper()
	if now := show(w); now != ahead {
		t.Errorf("%s changed something:\n%s, not\n%s", what, now, ahead)
	}
}

// P16.1: the numbers of statuses, of ends, of traps.
func TestNumbers(t *testing.T) {
	got := []int{world.Ready, world.Waiting, world.Asleep, world.Done, world.Runs, world.Halted, world.Trapped, world.TrapSend, world.TrapClose, world.TrapUnlock, world.TrapDeep, world.TrapMany, world.TrapOut, world.TrapEnd}
	if !slices.Equal(got, []int{1, 2, 3, 4, 0, 1, 2, -1, -2, -3, -4, -5, -6, -7}) {
		t.Errorf("numbers: %v", got)
	}
}

// P16.1: goroutine 0, Ready, at function 0 with 0; nothing else has happened.
func TestNew(t *testing.T) {
	for _, x := range []struct{ chans, locks int }{{0, 0}, {1, 1}, {3, 2}, {8, 8}} {
		p := code.Program{Funcs: [][]code.Ins{{{}}, {{}}}, Locks: x.locks}
		for i := range x.chans {
			p.Chans = append(p.Chans, 2*i)
		}
		w := world.New(p)
		want := view{Status: []int{world.Ready}, Stacks: []frame.Stack{frame.Begin(0, 0)}}
		want.Chans = make([]chans.State, api.MaxChan)
		want.Owners = slices.Repeat([]int{locks.None}, api.MaxLock)
		want.Waits = make([][]int, api.MaxLock)
		if got, text := show(w), fmt.Sprintf("%+v", want); got != text {
			t.Errorf("%v: %s, not %s", x, got, text)
		}
		if w.Len() != 1 {
			t.Errorf("Len: %d", w.Len())
		}
	}
}

// P16.1: the rooms of channels are the program's.
func TestRooms(t *testing.T) {
	for room := range api.MaxCap + 1 {
		w := start(t, fmt.Sprintf("chan 3\nchan %d\nfunc\nsend 1 0\njump 0", room))
		n := 0
		for ; w.Status(0) == world.Ready; n++ {
			w.Exec(0, undrawn)
		}
		if s := w.Chan(1); n != 2*room+1 || len(s.Buffer) != room || len(s.Senders) != 1 {
			t.Errorf("room %d: %d instructions, %+v", room, n, s)
		}
	}
}

// K3: the program may be changed behind New; and a world changes no program.
func TestProgramIsNotKept(t *testing.T) {
	text := "chan 1\nchan 1\nlocks 1\nsend 0 3\nrecv 1 3\nfunc\nconst 3 7\ncall 1 3 4\nselect 0 2 5\nlock 0\nemit 4\nreturn 0\nfunc\nadd 1 0 0\nreturn 1\n"
	p, kept := program(t, text), program(t, text)
	w, still := world.New(p), world.New(kept)
	for f := range p.Funcs {
		for i := range p.Funcs[f] {
			p.Funcs[f][i] = code.Ins{Op: code.Trap, A: 99}
		}
		p.Funcs[f] = nil
	}
	p.Chans[0], p.Chans[1] = 0, 0
	p.Cases[0], p.Cases[1] = code.Case{Way: code.WayElse}, code.Case{Way: code.WayElse}
	first := func(kind, n int) int { return 0 }
	for range 8 {
		w.Exec(0, first)
		still.Exec(0, first)
	}
	ended(t, w, world.Halted, 0)
	stays(t, "another program", w, show(still))
	if asm.Text(kept) != text {
		t.Errorf("the program: %s", asm.Text(kept))
	}
}

// P16.1: of goroutines, channels and locks that there aren't.
func TestNumbersOfNone(t *testing.T) {
	w := start(t, "chan 1\nchan 1\nlocks 2\nfunc\nspawn 0 0 1\nlock 0\nlock 1\nsend 0 0\nsend 1 0\nreturn 0")
	run(t, w, 0, 0, 0, 0, 0)
	const great = 1 << 40
	for _, g := range []int{-1, -2, -great, 2, 3, 99, 100, great} {
		if s := w.Stack(g); w.Status(g) != 0 || s != nil {
			t.Errorf("goroutine %d: %d, %v", g, w.Status(g), s)
		}
	}
	for _, i := range []int{-1, -great, 2, 7, 8, great} {
		if s := w.Chan(i); s.Closed || len(s.Buffer)+len(s.Senders)+len(s.Receivers) != 0 {
			t.Errorf("channel %d: %+v", i, s)
		}
		if owner, l := w.Lock(i); owner != -1 || len(l) != 0 {
			t.Errorf("lock %d: %d, %v", i, owner, l)
		}
	}
	for i := range 2 {
		if owner, l := w.Lock(i); owner != 0 || len(l) != 0 {
			t.Errorf("lock %d: %d, %v", i, owner, l)
		}
		if s := w.Chan(i); len(s.Buffer) != 1 {
			t.Errorf("channel %d: %+v", i, s)
		}
	}
}

// P16.2: Exec of a goroutine that there isn't, or that isn't Ready: a zero Effect, and nothing.
func TestExecOfNobody(t *testing.T) {
	w := start(t, "chan 0\nlocks 1\nfunc\nconst 1 5\nspawn 1 0 0\nspawn 2 0 0\nspawn 3 0 0\nspawn 4 0 0\nlock 0\nnop\nnop\nfunc\nrecv 0 1 2\nfunc\nlock 0\nfunc\nconst 1 5\nsleep 1\nfunc\nreturn 0")
	run(t, w, 0, 0, 0, 0, 0, 0, 1, 2, 3, 3, 4)
	for g, status := range []int{world.Ready, world.Waiting, world.Waiting, world.Asleep, world.Done} {
		is(t, w, g, status)
	}
	ahead := show(w)
	for _, g := range []int{-1, -1 << 40, 1, 2, 3, 4, 5, 6, 100, 1 << 40} {
		check(t, w.Exec(g, undrawn), false)
		check(t, w.Exec(g, nil), false)
		stays(t, fmt.Sprintf("Exec(%d)", g), w, ahead)
	}
	effect(t, w, 0, true)
}

// P16.2: behind the end nothing is done any more, by no goroutine, nor by the clock.
func TestBehindTheEnd(t *testing.T) {
	ahead := "chan 0\nlocks 1\nfunc\nconst 1 2\nspawn 1 1 2\nspawn 2 1 2\nlock 0\nrand 5 3\n"
	for end, how := range map[string]int{"return 0": world.Halted, "trap 7": world.Trapped, "close 0\nclose 0": world.Trapped} {
		w := start(t, ahead+end+"\nfunc\nsleep 0\nfunc\nemit 0\njump 0")
		run(t, w, 0, 0, 0, 1, 0, 2)
		for range 3 {
			w.Exec(0, func(kind, n int) int { return 0 })
		}
		if got, _ := w.End(); got != how || w.Stuck() {
			t.Fatalf("%q: %d, %t", end, got, w.Stuck())
		}
		was := show(w)
		for range 4 {
			for _, g := range []int{0, 1, 2, 3, -1} {
				check(t, w.Exec(g, undrawn), false)
				stays(t, "Exec", w, was)
			}
			if l := w.Tick(); len(l) != 0 {
				t.Errorf("Tick: %v", l)
			}
			stays(t, "Tick", w, was)
		}
	}
}

// P16.2: a goroutine that is Done stays so, whatever the others and the clock do.
func TestDoneStaysDone(t *testing.T) {
	w := start(t, "chan 1\nlocks 1\nfunc\nspawn 1 0 1\nnop\nlock 0\nsend 0 1\nunlock 0\nrecv 0 3 4\nclose 0\njump 1\nfunc\nconst 3 6\nreturn 3")
	run(t, w, 0, 1, 1)
	is(t, w, 1, world.Done)
	at(t, w, 1, 2, 0, 0, 0, 6)
	for range 7 {
		effect(t, w, 0, true)
		w.Tick()
		check(t, w.Exec(1, undrawn), false)
		is(t, w, 1, world.Done)
		at(t, w, 1, 2, 0, 0, 0, 6)
	}
	if w.Len() != 2 {
		t.Errorf("Len: %d", w.Len())
	}
}

// P16.1: Stuck: nobody is Ready or Asleep, while all runs.
func TestStuck(t *testing.T) {
	stuck := func(w *world.World, want bool) {
		t.Helper()
		if w.Stuck() != want {
			t.Errorf("Stuck: %t", !want)
		}
	}
	w := start(t, "chan 0\nlocks 1\nfunc\nspawn 1 0 1\nspawn 2 0 1\nspawn 3 0 1\nlock 0\nlock 0\nfunc\nconst 1 2\nsleep 1\nrecv 0 1 2\nfunc\nlock 0\nfunc\nreturn 0")
	stuck(w, false)
	run(t, w, 0, 0, 0, 0)
	for _, g := range []int{0, 1, 1, 2, 3} {
		stuck(w, false)
		run(t, w, g)
	}
	// One is Asleep, nobody Ready.
	stuck(w, false)
	w.Tick()
	stuck(w, false)
	w.Tick()
	// It is Ready.
	stuck(w, false)
	run(t, w, 1)
	stuck(w, true)
	w.Tick()
	stuck(w, true)
	if w.Clock() != 3 {
		t.Errorf("Clock: %d", w.Clock())
	}
	ended(t, w, world.Runs, 0)
}

// P1: a World that New didn't make has nobody, and no call of it panics.
func TestZeroWorld(t *testing.T) {
	var w world.World
	check(t, w.Exec(0, undrawn), false)
	if l := w.Tick(); len(l) != 0 || w.Len() != 0 || w.Status(0) != 0 || w.Stack(0) != nil || len(w.Out()) != 0 || len(w.Sleepers()) != 0 {
		t.Errorf("a zero World: %s", show(&w))
	}
	ended(t, &w, world.Runs, 0)
}
