package sched_test

import (
	"fmt"
	"math/rand"
	"slices"
	"testing"

	"shunter/api"
	"shunter/record"
	"shunter/sample"
	"shunter/sched"
	"shunter/source"
)

// pair is a scheduler, and a model beside it.
type pair struct {
	r     *rand.Rand
	s     *sched.Sched
	m     *model
	mine  *source.Source // the scheduler's
	kept  []any          // what was answered
	texts []string       // what that was then
}

// step: both do one; "": they are alike.
func (x *pair) step() string {
	if x.r.Intn(25) == 0 {
		x.watch()
	}
	var e sched.Event
	p := caught(func() { e = x.s.Step() })
	want, q := x.m.step()
	x.mine.Watch(nil)
	x.m.draws.Watch(nil)
	if p != q || e.Kind != want.Kind || e.M != want.M || e.G != want.G || !slices.Equal(e.Ready, want.Ready) {
		return fmt.Sprintf("%+v, panic %+v, not %+v, %+v", e, p, want, q)
	}
	if !x.m.agrees(x.s) || x.mine.Left() != x.m.draws.Left() {
		return fmt.Sprint(x.s.Processors(), x.s.Machines(), x.s.Global(), " not ", x.m.queues, x.m.machines, x.m.global)
	}
	x.m.seen[fmt.Sprint("kind ", e.Kind)]++
	if p != nil {
		x.m.seen[fmt.Sprintf("panic %T", p)]++
		x.strayed(p)
	}
	x.keep(e)
	return lost(x.s) + doubled(x.s)
}

// watch: some draw of the next step panics, when it is taken.
func (x *pair) watch() {
	kind := 1 + x.r.Intn(4)
	for _, s := range []*source.Source{x.mine, x.m.draws} {
		s.Watch(func(r record.Record) {
			if r.Kind == kind {
				panic(fmt.Sprint("seen ", kind))
			}
		})
	}
}

// strayed: what stands in the way is taken, so that they go on.
func (x *pair) strayed(p any) {
	if u, ok := p.(source.Unlike); ok {
		x.m.seen[fmt.Sprint("strayed, of kind ", u.Kind)]++
		x.mine.Draw(u.Got.Kind, int(u.Got.N)+1)
		x.m.draws.Draw(u.Got.Kind, int(u.Got.N)+1)
	}
	if s, ok := p.(string); ok {
		x.m.seen[s]++
	}
}

// keep: some answers, to be held against themselves; others are written into, which changes nothing.
func (x *pair) keep(e sched.Event) {
	if x.r.Intn(20) > 0 {
		return
	}
	ps, ms, g := x.s.Processors(), x.s.Machines(), x.s.Global()
	if x.r.Intn(2) == 0 {
		for _, l := range []any{e, ps, ms, g} {
			x.kept, x.texts = append(x.kept, l), append(x.texts, fmt.Sprint(l))
		}
		return
	}
	for i := range ps {
		spoil(ps[i].Ring)
		ps[i] = sched.Processor{}
	}
	clear(ms)
	spoil(g)
	spoil(e.Ready)
}

// spoil: whatever a list has, and what is behind its end, is another now.
func spoil(l []int) {
	l = l[:cap(l)]
	for i := range l {
		l[i] = 1 << 30
	}
}

// stay: is what was answered as it was?
func (x *pair) stay() string {
	for i, l := range x.kept {
		if got := fmt.Sprint(l); got != x.texts[i] {
			return fmt.Sprintf("an answer became %s, not %s", got, x.texts[i])
		}
	}
	return ""
}

// ended: nothing more can come: it goes no more, or has no draws.
func (x *pair) ended() bool {
	return x.s.Status() != sched.Going || x.mine.Left() == 0
}

// run: so many steps, and a few behind the end; "": they are alike all along.
func (x *pair) run(steps int) string {
	behind := 0
	for at := 0; at < steps && behind < 4; at++ {
		if s := x.step(); s != "" {
			return fmt.Sprintf("step %d: %s", at, s)
		}
		if x.ended() {
			behind++
		}
	}
	if showWorld(x.s.World()) != showWorld(x.m.w) {
		return fmt.Sprintf("%s\nnot %s", showWorld(x.s.World()), showWorld(x.m.w))
	}
	return x.stay()
}

// often are things that must happen so many times.
var often = map[string]int{
	"kind 0": 1000, "kind 1": 1000, "kind 2": 1000, "kind 3": 1000, "kind 4": 1000, "kind 5": 500, "kind 6": 1000, "kind 7": 1000,
	"found within a turn": 500, "parked, of its own": 500, "parked, of one": 100, "runs over, by ready": 300, "runs over, by turn": 200,
	"seventh, ahead of the ring": 500, "seventh, without the global row": 500, "several ready": 100, "stole several": 100, "stole who goes next": 100,
	"seen 1": 500, "seen 2": 50, "seen 3": 20, "seen 4": 20,
	"strayed, of kind 1": 500, "strayed, of kind 2": 100, "strayed, of kind 3": 20, "strayed, of kind 4": 20, "panic source.Dry": 500,
	"status 0": 100, "status 1": 50, "status 2": 50, "status 3": 100,
}

// P18.1, P18.2, P18.3, K3: behind any draws each step is by the chapter's words, be it that draws panic; nobody is lost, no processor is held twice; what was answered stays as it is.
func TestAgainstAModel(t *testing.T) {
	seen := map[string]int{}
	for seed := range int64(2000) {
		r := rand.New(rand.NewSource(seed))
		p, c := sample.Program(r), sample.Config(r)
		if fault, ok := p.Check(); !ok || c.Check() != api.OK {
			t.Fatalf("seed %d: %+v, %+v", seed, fault, c)
		}
		steps := sample.Some(r, 100, 400, 700)
		numbers := sample.Numbers(r, c, steps-r.Intn(80))
		ahead := sample.Decisions(r)
		mine, other := source.Chain(ahead, numbers), source.Chain(ahead, numbers)
		x := &pair{r: r, s: sched.New(p, c, mine), m: newModel(p, c, other, seen), mine: mine}
		if s := x.run(steps); s != "" {
			t.Fatalf("seed %d, %+v: %s", seed, c, s)
		}
		seen[fmt.Sprint("status ", x.s.Status())]++
	}
	for name, n := range often {
		if seen[name] < n {
			t.Errorf("%s: %d times", name, seen[name])
		}
	}
}

// P18.1, K4: the same draws come to the same, be they of an oracle, or of a tape of what it drew.
func TestTheSameDrawsTheSame(t *testing.T) {
	for seed := range int64(60) {
		r := rand.New(rand.NewSource(seed))
		p, c := sample.Program(r), sample.Config(r)
		numbers := sample.Numbers(r, c, 250)
		first := source.Oracle(numbers)
		s := sched.New(p, c, first)
		var all []string
		source.Guard(func() {
			for s.Status() == sched.Going {
				all = append(all, fmt.Sprint(s.Step(), show(s)))
			}
		})
		for _, again := range []*source.Source{source.Oracle(numbers), source.Tape(first.Taken())} {
			s := sched.New(p, c, again)
			for at, want := range all {
				if got := fmt.Sprint(s.Step(), show(s)); got != want {
					t.Fatalf("seed %d, step %d: %s\nnot %s", seed, at, got, want)
				}
			}
		}
	}
}

// P18.1, P18.2, P18.3: all short rows of draws, behind some that bring machines and goroutines to work.
func TestAllShortRowsOfDraws(t *testing.T) {
	text := "chan 0\nrecv 0 1\nsend 0 1\nfunc\nspawn 1 0 1\nspawn 2 0 1\nspawn 1 0 1\nyield\nselect 0 2 3\njump 4\nfunc\nrecv 0 1 2\nyield\njump 0\nfunc\nconst 1 1\nsleep 1\nsend 0 1\njump 1"
	p, r := program(t, text), rand.New(rand.NewSource(1))
	for _, c := range []sched.Config{{P: 2, M: 2, Ring: 2, Slice: 1}, {P: 2, M: 2, Ring: 2, Slice: 3}, {P: 1, M: 2, Ring: 2, Slice: 2}} {
		for ahead := range 4 {
			for row := range 6 * 6 * 6 * 6 {
				numbers := make([]uint64, 8*ahead, 8*ahead+4)
				for i := range numbers {
					numbers[i] = uint64(i / 4 % 2)
				}
				for n := row; len(numbers) < cap(numbers); n /= 6 {
					numbers = append(numbers, uint64(n%6))
				}
				mine := source.Oracle(numbers)
				x := &pair{r: r, s: sched.New(p, c, mine), m: newModel(p, c, source.Oracle(numbers), map[string]int{}), mine: mine}
				if s := x.run(len(numbers)); s != "" {
					t.Fatalf("%+v, %v: %s", c, numbers, s)
				}
			}
		}
	}
}
