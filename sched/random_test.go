package sched_test

import (
	"fmt"
	"math/rand"
	"slices"
	"testing"

	"shunter/api"
	"shunter/code"
	"shunter/record"
	"shunter/sched"
	"shunter/source"
)

// maker makes programs that may be, of many goroutines that wait for each other, sleep and draw.
type maker struct {
	r      *rand.Rand
	p      code.Program
	closes bool // nobody sends: the first function closes what others wait for
}

func (m *maker) reg() int { return m.r.Intn(4) }

// some is one of a few, each as often as it stands there.
func some[T any](r *rand.Rand, l ...T) T {
	return l[r.Intn(len(l))]
}

// snippet is some instructions that stand one behind the other.
func (m *maker) snippet() []code.Ins {
	channel, lock, first := m.r.Intn(len(m.p.Chans)), m.r.Intn(m.p.Locks), m.r.Intn(len(m.p.Cases))
	switch k := m.r.Intn(40); {
	case k < 5 && !m.closes:
		return []code.Ins{{Op: code.Send, A: channel, B: m.reg()}}
	case k < 10:
		return []code.Ins{{Op: code.Recv, A: channel, B: m.reg(), C: m.reg()}}
	case k < 15:
		return []code.Ins{{Op: code.Select, A: first, B: 1 + m.r.Intn(min(len(m.p.Cases)-first, 4)), C: m.reg()}}
	case k < 18:
		r := m.reg()
		return []code.Ins{{Op: code.Const, A: r, B: m.r.Intn(5)}, {Op: code.Sleep, A: r}}
	case k < 21:
		return slices.Concat([]code.Ins{{Op: code.Lock, A: lock}}, m.snippet(), []code.Ins{{Op: code.Unlock, A: lock}})
	case k < 25:
		return []code.Ins{{Op: code.Rand, A: m.reg(), B: some(m.r, 1, 2, 3, 1000, 1<<40-1)}}
	case k < 29:
		return []code.Ins{{Op: code.Yield}}
	case k < 32:
		return []code.Ins{{Op: code.Spawn, A: 1 + m.r.Intn(len(m.p.Funcs)-1), B: m.reg(), C: m.reg()}}
	case k < 33:
		return []code.Ins{{Op: code.Emit, A: m.reg()}}
	case k < 34 && m.r.Intn(3) == 0 && !m.closes:
		return []code.Ins{some(m.r, code.Ins{Op: code.Close, A: channel}, code.Ins{Op: code.Trap, A: m.r.Intn(9)}, code.Ins{Op: code.Unlock, A: lock})}
	}
	return []code.Ins{{Op: code.Add, A: m.reg(), B: m.reg(), C: m.reg()}}
}

// fun is a function that begins with some instructions.
func (m *maker) fun(l []code.Ins) []code.Ins {
	begun := len(l)
	for many := begun + 2 + m.r.Intn(14); len(l) < many; {
		l = append(l, m.snippet()...)
	}
	l = l[:min(len(l), api.MaxCode-1)]
	if m.r.Intn(4) > 0 {
		return append(l, code.Ins{Op: code.Jump, A: min(begun, len(l)-1)})
	}
	return append(l, code.Ins{Op: code.Return, A: m.reg()})
}

// closer begins with some instructions, and closes each channel, when others had time to wait there.
func (m *maker) closer(l []code.Ins) []code.Ins {
	for channel := range m.p.Chans {
		l = append(l, slices.Repeat([]code.Ins{{Op: code.Yield}}, m.r.Intn(6))...)
		l = append(l, code.Ins{Op: code.Close, A: channel})
	}
	return append(l, code.Ins{Op: code.Yield}, code.Ins{Op: code.Jump, A: len(l)})
}

func drawnProgram(r *rand.Rand) code.Program {
	m := &maker{r: r, closes: r.Intn(5) == 0}
	ways := []int{0, 0, 0, 1, 1, 1, 2}
	if m.closes {
		ways = []int{0}
	}
	m.p = code.Program{Funcs: make([][]code.Ins, 2+r.Intn(3)), Locks: 1 + r.Intn(2)}
	for range 1 + r.Intn(4) {
		m.p.Chans = append(m.p.Chans, some(r, 0, 0, 1, 2, 16))
	}
	for range 1 + r.Intn(8) {
		m.p.Cases = append(m.p.Cases, code.Case{Way: some(r, ways...), Chan: r.Intn(len(m.p.Chans)), Reg: m.reg()})
	}
	var begin []code.Ins
	for range r.Intn(some(r, 2, 12, 30)) {
		begin = append(begin, code.Ins{Op: code.Spawn, A: 1 + r.Intn(len(m.p.Funcs)-1), B: m.reg(), C: m.reg()})
	}
	m.p.Funcs[0] = m.fun(begin)
	if m.closes {
		m.p.Funcs[0] = m.closer(begin)
	}
	for i := range m.p.Funcs[1:] {
		m.p.Funcs[i+1] = m.fun(nil)
	}
	return m.p
}

func drawnConfig(r *rand.Rand) sched.Config {
	return sched.Config{P: some(r, 1, 2, 2, 2, 3, 3, 4, 64), M: some(r, 1, 2, 2, 3, 3, 4, 4, 64), Ring: some(r, 2, 2, 3, 4, 7, 1024), Slice: some(r, 1, 1, 2, 3, 5, 9, 40, 1024)}
}

// drawnNumbers are an oracle's; by each of some the clock is seldom picked.
func drawnNumbers(r *rand.Rand, c sched.Config, many int) []uint64 {
	l := make([]uint64, many)
	seldom := r.Intn(2) == 0
	for i := range l {
		l[i] = r.Uint64() >> r.Intn(64)
		if seldom && l[i]%uint64(c.M+1) == uint64(c.M) && r.Intn(8) > 0 {
			l[i] = uint64(r.Intn(c.M))
		}
	}
	return l
}

// sources are two of the same: of numbers, behind some decisions that may stray, or not.
func sources(r *rand.Rand, numbers []uint64) (*source.Source, *source.Source) {
	var l []record.Record
	for range some(r, 0, 0, 0, 5, 30) {
		l = append(l, record.Record{Kind: some(r, 1, 1, 1, 1, 1, 1, 2, 3, 4), N: uint64(r.Intn(3))})
	}
	return source.Chain(l, numbers), source.Chain(l, numbers)
}

// pair is a scheduler, and a model beside it.
type pair struct {
	r     *rand.Rand
	s     *sched.Sched
	m     *model
	mine  *source.Source // the scheduler's
	kept  []any          // what was answered
	texts []string       // what that was then
}

// step: both do one; "": they are alike.
func (x *pair) step() string {
	if x.r.Intn(25) == 0 {
		x.watch()
	}
	var e sched.Event
	p := caught(func() { e = x.s.Step() })
	want, q := x.m.step()
	x.mine.Watch(nil)
	x.m.draws.Watch(nil)
	if p != q || e.Kind != want.Kind || e.M != want.M || e.G != want.G || !slices.Equal(e.Ready, want.Ready) {
		return fmt.Sprintf("%+v, panic %+v, not %+v, %+v", e, p, want, q)
	}
	if !x.m.agrees(x.s) || x.mine.Left() != x.m.draws.Left() {
		return fmt.Sprint(x.s.Processors(), x.s.Machines(), x.s.Global(), " not ", x.m.queues, x.m.machines, x.m.global)
	}
	x.m.seen[fmt.Sprint("kind ", e.Kind)]++
	if p != nil {
		x.m.seen[fmt.Sprintf("panic %T", p)]++
		x.strayed(p)
	}
	x.keep(e)
	return lost(x.s) + doubled(x.s)
}

// watch: some draw of the next step panics, when it is taken.
func (x *pair) watch() {
	kind := 1 + x.r.Intn(4)
	for _, s := range []*source.Source{x.mine, x.m.draws} {
		s.Watch(func(r record.Record) {
			if r.Kind == kind {
				panic(fmt.Sprint("seen ", kind))
			}
		})
	}
}

// strayed: what stands in the way is taken, so that they go on.
func (x *pair) strayed(p any) {
	if u, ok := p.(source.Unlike); ok {
		x.m.seen[fmt.Sprint("strayed, of kind ", u.Kind)]++
		x.mine.Draw(u.Got.Kind, int(u.Got.N)+1)
		x.m.draws.Draw(u.Got.Kind, int(u.Got.N)+1)
	}
	if s, ok := p.(string); ok {
		x.m.seen[s]++
	}
}

// keep: some answers, to be held against themselves; others are written into, which changes nothing.
func (x *pair) keep(e sched.Event) {
	if x.r.Intn(20) > 0 {
		return
	}
	ps, ms, g := x.s.Processors(), x.s.Machines(), x.s.Global()
	if x.r.Intn(2) == 0 {
		for _, l := range []any{e, ps, ms, g} {
			x.kept, x.texts = append(x.kept, l), append(x.texts, fmt.Sprint(l))
		}
		return
	}
	for i := range ps {
		spoil(ps[i].Ring)
		ps[i] = sched.Processor{}
	}
	clear(ms)
	spoil(g)
	spoil(e.Ready)
}

// spoil: whatever a list has, and what is behind its end, is another now.
func spoil(l []int) {
	l = l[:cap(l)]
	for i := range l {
		l[i] = 1 << 30
	}
}

// stay: is what was answered as it was?
func (x *pair) stay() string {
	for i, l := range x.kept {
		if got := fmt.Sprint(l); got != x.texts[i] {
			return fmt.Sprintf("an answer became %s, not %s", got, x.texts[i])
		}
	}
	return ""
}

// ended: nothing more can come: it goes no more, or has no draws.
func (x *pair) ended() bool {
	return x.s.Status() != sched.Going || x.mine.Left() == 0
}

// run: so many steps, and a few behind the end; "": they are alike all along.
func (x *pair) run(steps int) string {
	behind := 0
	for at := 0; at < steps && behind < 4; at++ {
		if s := x.step(); s != "" {
			return fmt.Sprintf("step %d: %s", at, s)
		}
		if x.ended() {
			behind++
		}
	}
	if showWorld(x.s.World()) != showWorld(x.m.w) {
		return fmt.Sprintf("%s\nnot %s", showWorld(x.s.World()), showWorld(x.m.w))
	}
	return x.stay()
}

// often are things that must happen so many times.
var often = map[string]int{
	"kind 0": 1000, "kind 1": 1000, "kind 2": 1000, "kind 3": 1000, "kind 4": 1000, "kind 5": 500, "kind 6": 1000, "kind 7": 1000,
	"found within a turn": 500, "parked, of its own": 500, "parked, of one": 100, "runs over, by ready": 300, "runs over, by turn": 200,
	"seventh, ahead of the ring": 500, "seventh, without the global row": 500, "several ready": 100, "stole several": 100, "stole who goes next": 100,
	"seen 1": 500, "seen 2": 50, "seen 3": 20, "seen 4": 20,
	"strayed, of kind 1": 500, "strayed, of kind 2": 100, "strayed, of kind 3": 20, "strayed, of kind 4": 20, "panic source.Dry": 500,
	"status 0": 100, "status 1": 50, "status 2": 50, "status 3": 100,
}

// P18.1, P18.2, P18.3, K3: behind any draws each step is by the chapter's words, be it that draws panic; nobody is lost, no processor is held twice; what was answered stays as it is.
func TestAgainstAModel(t *testing.T) {
	seen := map[string]int{}
	for seed := range int64(2000) {
		r := rand.New(rand.NewSource(seed))
		p, c := drawnProgram(r), drawnConfig(r)
		if fault, ok := p.Check(); !ok || c.Check() != api.OK {
			t.Fatalf("seed %d: %+v, %+v", seed, fault, c)
		}
		steps := some(r, 100, 400, 700)
		mine, other := sources(r, drawnNumbers(r, c, steps-r.Intn(80)))
		x := &pair{r: r, s: sched.New(p, c, mine), m: newModel(p, c, other, seen), mine: mine}
		if s := x.run(steps); s != "" {
			t.Fatalf("seed %d, %+v: %s", seed, c, s)
		}
		seen[fmt.Sprint("status ", x.s.Status())]++
	}
	for name, n := range often {
		if seen[name] < n {
			t.Errorf("%s: %d times", name, seen[name])
		}
	}
}

// P18.1, K4: the same draws come to the same, be they of an oracle, or of a tape of what it drew.
func TestTheSameDrawsTheSame(t *testing.T) {
	for seed := range int64(60) {
		r := rand.New(rand.NewSource(seed))
		p, c := drawnProgram(r), drawnConfig(r)
		numbers := drawnNumbers(r, c, 250)
		first := source.Oracle(numbers)
		s := sched.New(p, c, first)
		var all []string
		source.Guard(func() {
			for s.Status() == sched.Going {
				all = append(all, fmt.Sprint(s.Step(), show(s)))
			}
		})
		for _, again := range []*source.Source{source.Oracle(numbers), source.Tape(first.Taken())} {
			s := sched.New(p, c, again)
			for at, want := range all {
				if got := fmt.Sprint(s.Step(), show(s)); got != want {
					t.Fatalf("seed %d, step %d: %s\nnot %s", seed, at, got, want)
				}
			}
		}
	}
}

// P18.1, P18.2, P18.3: all short rows of draws, behind some that bring machines and goroutines to work.
func TestAllShortRowsOfDraws(t *testing.T) {
	text := "chan 0\nrecv 0 1\nsend 0 1\nfunc\nspawn 1 0 1\nspawn 2 0 1\nspawn 1 0 1\nyield\nselect 0 2 3\njump 4\nfunc\nrecv 0 1 2\nyield\njump 0\nfunc\nconst 1 1\nsleep 1\nsend 0 1\njump 1"
	p, r := program(t, text), rand.New(rand.NewSource(1))
	for _, c := range []sched.Config{{P: 2, M: 2, Ring: 2, Slice: 1}, {P: 2, M: 2, Ring: 2, Slice: 3}, {P: 1, M: 2, Ring: 2, Slice: 2}} {
		for ahead := range 4 {
			for row := range 6 * 6 * 6 * 6 {
				numbers := make([]uint64, 8*ahead, 8*ahead+4)
				for i := range numbers {
					numbers[i] = uint64(i / 4 % 2)
				}
				for n := row; len(numbers) < cap(numbers); n /= 6 {
					numbers = append(numbers, uint64(n%6))
				}
				mine := source.Oracle(numbers)
				x := &pair{r: r, s: sched.New(p, c, mine), m: newModel(p, c, source.Oracle(numbers), map[string]int{}), mine: mine}
				if s := x.run(len(numbers)); s != "" {
					t.Fatalf("%+v, %v: %s", c, numbers, s)
				}
			}
		}
	}
}
