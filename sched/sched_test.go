package sched_test

import (
	"fmt"
	"math"
	"slices"
	"testing"

	"shunter/api"
	"shunter/asm"
	"shunter/code"
	"shunter/record"
	"shunter/sched"
	"shunter/source"
	"shunter/world"
)

func pick(n uint64) record.Record   { return record.Record{Kind: record.Pick, N: n} }
func victim(n uint64) record.Record { return record.Record{Kind: record.Victim, N: n} }
func which(n uint64) record.Record  { return record.Record{Kind: record.Case, N: n} }
func number(n uint64) record.Record { return record.Record{Kind: record.Rand, N: n} }

// picks are so many of the same.
func picks(n uint64, times int) []record.Record {
	return slices.Repeat([]record.Record{pick(n)}, times)
}

// program is a text's.
func program(t *testing.T, text string) code.Program {
	t.Helper()
	p, line, err := asm.Parse(text)
	if err != api.OK {
		t.Fatalf("%q: line %d, error %d", text, line, err)
	}
	return p
}

// ride is a scheduler, and where its draws come from.
type ride struct {
	*sched.Sched
	t     *testing.T
	draws *source.Source
}

// start is a scheduler that draws just these decisions.
func start(t *testing.T, c sched.Config, text string, draws ...record.Record) *ride {
	t.Helper()
	if c.Check() != api.OK {
		t.Fatalf("%+v may not be", c)
	}
	s := source.Tape(draws)
	x := &ride{Sched: sched.New(program(t, text), c, s), t: t, draws: s}
	x.whole()
	return x
}

// caught is what run panicked with; nil: with nothing.
func caught(run func()) (x any) {
	defer func() { x = recover() }()
	run()
	return nil
}

// step is one that is done, by so many draws.
func (x *ride) step(draws int) sched.Event {
	x.t.Helper()
	steps, left := x.Steps(), x.draws.Left()
	var e sched.Event
	if p := caught(func() { e = x.Step() }); p != nil {
		x.t.Fatalf("step %d panics with %+v", steps, p)
	}
	if x.Steps() != steps+1 || x.draws.Left() != left-draws {
		x.t.Errorf("step %d: %d draws, then %d steps", steps, left-x.draws.Left(), x.Steps())
	}
	x.whole()
	return e
}

// steps does so many, whatever they are, that draw a Pick alone.
func (x *ride) steps(many int) {
	x.t.Helper()
	for range many {
		x.step(1)
	}
}

// is does a step, by a Pick alone, and holds what it was against what it must be.
func (x *ride) is(kind, m, g int, ready ...int) {
	x.t.Helper()
	x.isBy(1, kind, m, g, ready...)
}

// isBy: by so many draws.
func (x *ride) isBy(draws, kind, m, g int, ready ...int) {
	x.t.Helper()
	e := x.step(draws)
	if e.Kind != kind || e.M != m || e.G != g || !slices.Equal(e.Ready, ready) {
		x.t.Errorf("step %d: %+v, not kind %d, machine %d, goroutine %d, ready %v", x.Steps()-1, e, kind, m, g, ready)
	}
}

// ran: some steps of a machine by a goroutine, by which nobody else can go on.
func (x *ride) ran(m, g, times int) {
	x.t.Helper()
	for range times {
		x.is(sched.Ran, m, g)
	}
}

// stands holds what all shows against what it must.
func (x *ride) stands(processors, machines, global string) {
	x.t.Helper()
	if got := fmt.Sprint(x.Processors()); got != processors {
		x.t.Errorf("behind step %d: Processors: %s, not %s", x.Steps()-1, got, processors)
	}
	if got := fmt.Sprint(x.Machines()); got != machines {
		x.t.Errorf("behind step %d: Machines: %s, not %s", x.Steps()-1, got, machines)
	}
	if got := fmt.Sprint(x.Global()); got != global {
		x.t.Errorf("behind step %d: Global: %s, not %s", x.Steps()-1, got, global)
	}
}

// show tells all that a scheduler shows, and its world.
func show(s *sched.Sched) string {
	return fmt.Sprint(s.Steps(), s.Status(), s.Processors(), s.Machines(), s.Global(), showWorld(s.World()))
}

// showWorld tells all that a world shows, with as many channels, and locks, as there may be.
func showWorld(w *world.World) string {
	end, why := w.End()
	text := fmt.Sprint(end, why, w.Clock(), w.Out(), w.Sleepers(), w.Stuck())
	for g := range w.Len() {
		text += fmt.Sprint(" ", w.Status(g), w.Stack(g))
	}
	for i := range api.MaxChan {
		text += fmt.Sprintf(" %+v", w.Chan(i))
	}
	for i := range api.MaxLock {
		owner, waits := w.Lock(i)
		text += fmt.Sprint(" ", owner, waits)
	}
	return text
}

// lost tells who stands where nobody may, or not where one must; "": nobody.
func lost(s *sched.Sched) string {
	stands := map[int]int{}
	for _, p := range s.Processors() {
		if p.Next != sched.None {
			stands[p.Next]++
		}
		for _, g := range p.Ring {
			stands[g]++
		}
	}
	for _, m := range s.Machines() {
		if m.G != sched.None {
			stands[m.G]++
		}
	}
	for _, g := range s.Global() {
		stands[g]++
	}
	for g := range s.World().Len() {
		want := 0
		if s.World().Status(g) == world.Ready {
			want = 1
		}
		if stands[g] != want {
			return fmt.Sprintf("goroutine %d, of status %d, stands in %d places", g, s.World().Status(g), stands[g])
		}
		delete(stands, g)
	}
	if len(stands) > 0 {
		return fmt.Sprintf("goroutines that there aren't: %v", stands)
	}
	return ""
}

// doubled tells which processor isn't held by just the machine by which it says that it is; "": none.
func doubled(s *sched.Sched) string {
	by := map[int]int{}
	for i, m := range s.Machines() {
		if m.P == sched.None {
			if m.G != sched.None || m.Left != 0 {
				return fmt.Sprintf("machine %d holds no processor: %+v", i, m)
			}
			continue
		}
		if other, ok := by[m.P]; ok {
			return fmt.Sprintf("machines %d and %d hold processor %d", other, i, m.P)
		}
		by[m.P] = i
	}
	for i, p := range s.Processors() {
		if m, ok := by[i]; ok && p.By != m || !ok && p.By != sched.None {
			return fmt.Sprintf("processor %d is held by %d, not %d", i, m, p.By)
		}
		delete(by, i)
	}
	if len(by) > 0 {
		return fmt.Sprintf("processors that there aren't: %v", by)
	}
	return ""
}

// whole: P18.2, P18.3.
func (x *ride) whole() {
	x.t.Helper()
	if s := lost(x.Sched) + doubled(x.Sched); s != "" {
		x.t.Fatalf("behind step %d: %s", x.Steps()-1, s)
	}
}

// over: it goes no more: a Step is none, however often it is asked.
func (x *ride) over(status int) {
	x.t.Helper()
	ahead, left := show(x.Sched), x.draws.Left()
	for range 3 {
		if e := x.Step(); e.Kind != 0 || e.M != 0 || e.G != 0 || len(e.Ready) != 0 {
			x.t.Errorf("a step behind the end: %+v", e)
		}
		if got := show(x.Sched); got != ahead || x.draws.Left() != left || x.Status() != status {
			x.t.Errorf("behind the end: status %d, %d left: %s\nnot %s", x.Status(), x.draws.Left(), got, ahead)
		}
	}
}

// P18.1: the document's example.
func TestExample(t *testing.T) {
	x := start(t, sched.Config{P: 1, M: 1, Ring: 2, Slice: 1}, "func\nnop\nreturn 0", picks(0, 3)...)
	x.is(sched.Held, 0, sched.None)
	x.is(sched.Found, 0, 0)
	x.is(sched.Ran, 0, 0)
}

// P18.1
func TestNumbers(t *testing.T) {
	if l := [...]int{sched.Ticked, sched.Held, sched.Idle, sched.Found, sched.Stole, sched.Parked, sched.Ran}; l != [...]int{1, 2, 3, 4, 5, 6, 7} {
		t.Errorf("kinds: %v", l)
	}
	if l := [...]int{sched.Going, sched.Halted, sched.Trapped, sched.Deadlock}; l != [...]int{0, 1, 2, 3} {
		t.Errorf("statuses: %v", l)
	}
	if sched.None != -1 || sched.Every != 7 {
		t.Errorf("None: %d, Every: %d", sched.None, sched.Every)
	}
}

// P18.1: each of the four at and beyond its limits, whatever the others are.
func TestCheck(t *testing.T) {
	type limit struct {
		low, high int
		set       func(c *sched.Config, v int)
	}
	limits := []limit{
		{1, 64, func(c *sched.Config, v int) { c.P = v }},
		{1, 64, func(c *sched.Config, v int) { c.M = v }},
		{2, 1024, func(c *sched.Config, v int) { c.Ring = v }},
		{1, 1024, func(c *sched.Config, v int) { c.Slice = v }},
	}
	for _, c := range []sched.Config{{1, 1, 2, 1}, {64, 64, 1024, 1024}, {3, 5, 8, 13}, {1, 64, 2, 1024}, {64, 1, 1024, 1}} {
		for i, l := range limits {
			for _, v := range []int{l.low, l.low + 1, (l.low + l.high) / 2, l.high - 1, l.high} {
				d := c
				l.set(&d, v)
				if d.Check() != api.OK {
					t.Errorf("%+v: %d", d, d.Check())
				}
			}
			for _, v := range []int{l.low - 1, l.low - 2, -1, -l.high, math.MinInt, math.MinInt + 1, l.high + 1, l.high + 2, 2*l.high + 1, 1 << 32, 1<<32 + l.low, math.MaxInt} {
				d := c
				l.set(&d, v)
				if d.Check() != api.ErrArg {
					t.Errorf("%+v, by place %d: %d", d, i, d.Check())
				}
			}
		}
	}
	if (sched.Config{}).Check() != api.ErrArg || (sched.Config{P: -1, M: -1, Ring: -1, Slice: -1}).Check() != api.ErrArg {
		t.Error("configs of which nothing may be")
	}
}

// P18.1: New: nobody holds a processor, the global row has goroutine 0, no step was done, nothing was drawn.
func TestNew(t *testing.T) {
	for _, c := range []sched.Config{{1, 1, 2, 1}, {2, 3, 2, 4}, {3, 2, 5, 1}, {64, 64, 1024, 1024}, {64, 1, 2, 9}, {1, 64, 2, 9}} {
		x := start(t, c, "chan 1\nlocks 1\nfunc\nreturn 0", pick(0))
		var processors, machines string
		for range c.P {
			processors += " {-1 [] 0 -1}"
		}
		for range c.M {
			machines += " {-1 -1 0}"
		}
		x.stands("["+processors[1:]+"]", "["+machines[1:]+"]", "[0]")
		if x.Steps() != 0 || x.Status() != sched.Going || x.draws.Left() != 1 {
			t.Errorf("%+v: %d steps, status %d, %d draws left", c, x.Steps(), x.Status(), x.draws.Left())
		}
		if w := x.World(); w.Len() != 1 || w.Status(0) != world.Ready || w.Clock() != 0 {
			t.Errorf("%+v: %s", c, show(x.Sched))
		}
	}
}

// P18.1: World is the world that goes on, whenever it was asked for.
func TestWorld(t *testing.T) {
	x := start(t, sched.Config{P: 1, M: 1, Ring: 2, Slice: 9}, "func\nconst 1 7\nemit 1\nreturn 0", append(picks(0, 4), pick(1), pick(0))...)
	w := x.World()
	x.steps(4)
	if l := w.Out(); w != x.World() || len(l) != 1 || l[0] != 7 {
		t.Errorf("Out: %v", l)
	}
	x.steps(2)
	if end, _ := w.End(); end != world.Halted || w.Clock() != 1 {
		t.Errorf("End: %d, Clock: %d", end, w.Clock())
	}
}

// K3: the program is as it was handed in, and what becomes of it later changes nothing.
func TestTheProgramIsNotKept(t *testing.T) {
	text := "chan 1\nrecv 0 3\nfunc\nspawn 1 0 1\nselect 0 1 2\nemit 3\nreturn 0\nfunc\nconst 1 8\nsend 0 1\nreturn 0\n"
	p := program(t, text)
	c := sched.Config{P: 1, M: 1, Ring: 2, Slice: 2}
	s, still := sched.New(p, c, source.Oracle(make([]uint64, 40))), sched.New(program(t, text), c, source.Oracle(make([]uint64, 40)))
	if asm.Text(p) != text {
		t.Errorf("the program: %s", asm.Text(p))
	}
	p.Funcs[0][2], p.Funcs[1][0], p.Chans[0] = code.Ins{Op: code.Trap}, code.Ins{Op: code.Trap}, 0
	p.Cases[0] = code.Case{Way: code.WayElse}
	p.Funcs[1] = nil
	for s.Status() == sched.Going {
		s.Step()
		still.Step()
		if show(s) != show(still) {
			t.Fatalf("%s\nnot %s", show(s), show(still))
		}
	}
	if l := s.World().Out(); s.Status() != sched.Halted || len(l) != 1 || l[0] != 8 {
		t.Errorf("status %d, %v", s.Status(), l)
	}
}

// P1: a Sched that New didn't make has nobody; no call of it panics.
func TestZeroSched(t *testing.T) {
	var s sched.Sched
	if e := s.Step(); e.Kind != 0 || e.M != 0 || e.G != 0 || len(e.Ready) != 0 || s.Status() == sched.Going || s.Steps() != 0 {
		t.Errorf("Step: %+v, %d, %d", e, s.Status(), s.Steps())
	}
	if len(s.Processors())+len(s.Machines())+len(s.Global()) != 0 || s.World().Len() != 0 {
		t.Errorf("%s", show(&s))
	}
}
