package trace_test

import (
	"fmt"
	"math/rand"
	"slices"
	"testing"

	"shunter/api"
	"shunter/sample"
	"shunter/sched"
	"shunter/snap"
	"shunter/source"
	"shunter/trace"
	"shunter/world"
)

// P20.1, P20.2: many programs, configs and draws: a Run tells what it must, as often as it is asked, and Follow makes all of it.
func TestManyRuns(t *testing.T) {
	seen := map[string]int{}
	for seed := range int64(1500) {
		r := rand.New(rand.NewSource(seed))
		p, c := sample.Program(r), sample.Config(r)
		if fault, ok := p.Check(); !ok || c.Check() != api.OK {
			t.Fatalf("seed %d: %+v, %+v", seed, fault, c)
		}
		numbers, ahead := sample.Numbers(r, c, 50+r.Intn(400)), sample.Decisions(r)
		mine, other := source.Chain(ahead, numbers), source.Chain(ahead, numbers)
		s, m := sched.New(p, c, mine), sched.New(p, c, other)
		var moves []trace.Move
		for range 8 {
			most := r.Intn(200) - 5
			x, want := runs(s, mine, most), model(m, other, most)
			if !alike(x, want) || mine.Left() != other.Left() {
				t.Fatalf("seed %d: %+v\nnot %+v", seed, x, want)
			}
			moves = append(moves, x.trace.Moves...)
			count(seen, x)
			if x.end == source.Strayed {
				// What stands in the way is taken, so that they go on.
				mine.Draw(x.where.Got.Kind, int(x.where.Got.N)+1)
				other.Draw(x.where.Got.Kind, int(x.where.Got.N)+1)
			}
		}
		follows(t, fmt.Sprint("seed ", seed), p, moves, s)
		seen[fmt.Sprint("status ", s.Status())]++
	}
	for name, n := range map[string]int{"well": 2000, "spent": 500, "strayed": 500, "ticks": 1000, "draws": 1000, "draws 0": 1000, "status 0": 100, "status 1": 20, "status 2": 20, "status 3": 100} {
		if seen[name] < n {
			t.Errorf("%s: %d times", name, seen[name])
		}
	}
}

// count: what a Run told.
func count(seen map[string]int, x ran) {
	seen[[]string{"well", "spent", "strayed"}[x.end]]++
	for _, m := range x.trace.Moves {
		switch {
		case m.Tick:
			seen["ticks"]++
		case m.Draw > 0:
			seen["draws"]++
		default:
			seen["draws 0"]++
		}
	}
}

// P20.2: not only at its end: behind each of a run's moves the world that follows is the scheduler's behind that move's step.
func TestFollowStepByStep(t *testing.T) {
	for seed := range int64(60) {
		r := rand.New(rand.NewSource(seed))
		p, c := sample.Program(r), sample.Config(r)
		draws := source.Oracle(sample.Numbers(r, c, 200))
		s := sched.New(p, c, draws)
		var behind [][]int64 // each step
		x, _, _ := trace.Run(s, draws, 999, func(sched.Event) {
			behind = append(behind, snap.World(s.World(), len(p.Chans), p.Locks))
		})
		for i, at := range x.Steps {
			w, made := trace.Follow(p, x.Moves[:i+1])
			if got := snap.World(w, len(p.Chans), p.Locks); made != i+1 || !slices.Equal(got, behind[at]) {
				t.Fatalf("seed %d: behind move %d, which is step %d: %v, not %v", seed, i, at, got, behind[at])
			}
		}
	}
}

// P20.2: a deadlock is told only where nobody can go on, or wake, and a run that halted, or trapped, is followed to just that.
func TestFollowToTheEnd(t *testing.T) {
	ends := map[int]int{}
	for seed := range int64(600) {
		r := rand.New(rand.NewSource(seed))
		p, c := sample.Program(r), sample.Config(r)
		draws := source.Oracle(sample.Numbers(r, c, 1500))
		s := sched.New(p, c, draws)
		x, end, _ := trace.Run(s, draws, 2000, nil)
		w, made := trace.Follow(p, x.Moves)
		how, why := w.End()
		if h, y := s.World().End(); made != len(x.Moves) || h != how || y != why {
			t.Fatalf("seed %d: %d of %d moves, end %d, %d, not %d, %d", seed, made, len(x.Moves), how, why, h, y)
		}
		goes := how == world.Runs && !w.Stuck()
		if (s.Status() == sched.Going) != goes || (s.Status() == sched.Deadlock) != w.Stuck() || end == source.Well && goes {
			t.Fatalf("seed %d: status %d, the draws ended %d, stuck: %t", seed, s.Status(), end, w.Stuck())
		}
		ends[s.Status()]++
	}
	for status, n := range []int{50, 20, 20, 100} {
		if ends[status] < n {
			t.Errorf("status %d: %d times", status, ends[status])
		}
	}
}

// walk is a world that makes moves, as they come to its mind, and keeps them.
type walk struct {
	r     *rand.Rand
	w     *world.World
	moves []trace.Move
}

// ready is one that can go on; false: nobody can.
func (x *walk) ready() (int, bool) {
	var l []int
	for g := range x.w.Len() {
		if x.w.Status(g) == world.Ready {
			l = append(l, g)
		}
	}
	if end, _ := x.w.End(); end != world.Runs || len(l) == 0 {
		return 0, false
	}
	return sample.Some(x.r, l...), true
}

// goes makes a move that can be made; false: all is over.
func (x *walk) goes() bool {
	if end, _ := x.w.End(); end != world.Runs {
		return false
	}
	g, ok := x.ready()
	m := trace.Move{G: g, Draw: x.r.Intn(5) - 2} // if it draws nothing, that says nothing
	if m.Tick = !ok || x.r.Intn(8) == 0; m.Tick {
		x.w.Tick()
	} else {
		x.w.Exec(g, func(_, n int) int {
			m.Draw = x.r.Intn(n)
			return m.Draw
		})
	}
	x.moves = append(x.moves, m)
	return true
}

// fails adds a move that can't be made: nobody's, or by a draw that there isn't; "": it could.
func (x *walk) fails() string {
	g, ok := x.ready()
	if !ok || x.r.Intn(3) == 0 {
		g = sample.Some(x.r, -1, x.w.Len(), x.r.Intn(x.w.Len()))
		if end, _ := x.w.End(); end == world.Runs && x.w.Status(g) == world.Ready {
			g = x.w.Len() + 1
		}
		x.moves = append(x.moves, trace.Move{G: g})
		return "nobody"
	}
	m, why := trace.Move{G: g}, ""
	x.w.Exec(g, func(_, n int) int {
		if x.r.Intn(2) == 0 {
			m.Draw, why = -1-x.r.Intn(5), "below 0"
			return 0
		}
		m.Draw, why = n+x.r.Intn(5), "beyond"
		return n - 1
	})
	x.moves = append(x.moves, m)
	return why
}

// P20.1: any moves, also such as no run makes: Follow makes the first ones, up to one that can't be made.
func TestFollowAnyMoves(t *testing.T) {
	seen := map[string]int{}
	for seed := range int64(6000) {
		r := rand.New(rand.NewSource(seed))
		p := sample.Program(r)
		x := &walk{r: r, w: world.New(p)}
		for n := r.Intn(60); len(x.moves) < n && x.goes(); {
		}
		want, why := len(x.moves), "all"
		if end, _ := x.w.End(); end == world.Runs && r.Intn(4) > 0 {
			if why = x.fails(); why == "" {
				want++
			} else {
				x.moves = append(x.moves, tick, by(0, 0), by(1, 0))
			}
		}
		w, made := trace.Follow(p, x.moves)
		if made != want || !slices.Equal(snap.World(w, len(p.Chans), p.Locks), snap.World(x.w, len(p.Chans), p.Locks)) {
			t.Fatalf("seed %d: %d moves, not %d, of %+v", seed, made, want, x.moves)
		}
		seen[why]++
	}
	for _, why := range []string{"all", "", "nobody", "below 0", "beyond"} {
		if seen[why] < 80 {
			t.Errorf("%q: %d times", why, seen[why])
		}
	}
}
