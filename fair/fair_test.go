package fair_test

import (
	"fmt"
	"math/rand"
	"slices"
	"testing"

	"shunter/code"
	"shunter/fair"
	"shunter/sample"
	"shunter/sched"
)

// lasting is a program that goes on for ever: its first goroutine begins some that are busy, that yield, that sleep, that send to each other, that take one lock, that end, that begin others, and is busy then.
func lasting(t *testing.T, r *rand.Rand) code.Program {
	t.Helper()
	kinds := []string{
		"jump 0",
		"yield\njump 0",
		"send 0 0\nrecv 1 1 2\njump 0",
		"recv 0 1 2\nsend 1 1\njump 0",
		"send 2 1\njump 0",
		"recv 2 1 2\njump 0",
		"lock 0\nnop\nunlock 0\njump 0",
		"const 1 3\nsleep 1\njump 1",
		"select 0 3 1\nrand 2 9\njump 0",
		"spawn 1 0 1\nspawn 1 0 1\nreturn 0",
		"add 1 1 0\nnop\nnop\nnop\nnop\nyield\njump 0",
	}
	begins, lines, funcs := "", 0, ""
	for i := range 5 {
		funcs += "func\n" + kinds[r.Intn(len(kinds))] + "\n"
		for range r.Intn(5) {
			begins += fmt.Sprintf("spawn %d 0 1\n", i+1)
			lines++
		}
	}
	ends := sample.Some(r, "jump", "yield\njump", "nop\nrand 2 7\njump", "send 2 0\njump")
	return program(t, fmt.Sprintf("chan 0\nchan 2\nchan 0\nlocks 1\nsend 0 1\nrecv 1 1\nelse\nfunc\n%s%s %d\n%s", begins, ends, lines, funcs))
}

// mixed are numbers by which each machine, and the clock, is picked as often as the others, in any order of each round.
func mixed(r *rand.Rand, c sched.Config, many int) []uint64 {
	var l []uint64
	for len(l) < many {
		for _, n := range r.Perm(c.M + 1) {
			l = append(l, uint64(n+(c.M+1)*r.Intn(1000)))
		}
	}
	return l
}

// seldom are numbers by which one machine, or some, is picked once a round alone, which is longer than there are machines.
func seldom(r *rand.Rand, c sched.Config, many int) []uint64 {
	var l []uint64
	round, often := c.M+2+r.Intn(30), r.Intn(c.M)
	for len(l) < many {
		at := r.Perm(round)
		for i := range round {
			n := often
			if at[i] <= c.M {
				n = at[i]
			}
			l = append(l, uint64(n))
		}
	}
	return l
}

// P24.2: FAIR: programs that go on for long, by any machines, each of which is picked now and then; by numbers of several sorts. Each run is what the chapter says, too.
func TestFair(t *testing.T) {
	seen := map[string]int{}
	for seed := range int64(300) {
		r := rand.New(rand.NewSource(seed))
		p := lasting(t, r)
		c := sched.Config{P: 1 + r.Intn(5), M: 1 + r.Intn(5), Ring: 2 + r.Intn(4), Slice: 1 + r.Intn(6)}
		sort := sample.Some(r, mixed, seldom, func(r *rand.Rand, c sched.Config, many int) []uint64 { return sample.Numbers(r, c, many) })
		numbers := sort(r, c, 3000)
		x, got := live(p, c, numbers, 1<<40), fair.Watch(p, c, numbers, 1<<40)
		if want := x.report(c.M); got != want {
			t.Fatalf("seed %d: %+v, not %+v", seed, got, want)
		}
		holds(t, c, got)
		for what := range x.seen {
			seen[what]++
		}
		counts(seen, c, got)
	}
	enough(t, seen, map[string]int{
		"dry": 150, "stolen": 60, "woken by the clock": 60, "ran over the ring": 100, "came into the global row": 250, "a window": 280, "a wait above the window": 200, "many goroutines": 200, "a hundredth of the bound": 50,
	})
}

// P24.2: the global row's go on by each seventh turn alone, as the ring has always some: four pairs, each of whom wakes the other, and waits, by the last instruction of a turn; behind them 64 that are busy wait for each other in the global row. So somebody waits for seven turns of each, which is much of the bound: also where the machine is picked but once a window, and the other one finds no processor.
func TestFairOfTheGlobalRow(t *testing.T) {
	text := "chan 0\nchan 0\nchan 0\nchan 0\nchan 0\nchan 0\nchan 0\nchan 0\nfunc\n"
	funcs := ""
	for pair := range 4 {
		text += fmt.Sprintf("spawn %d 0 1\n", 2*pair+1)
		funcs += fmt.Sprintf("func\nrecv %d 1 2\nsend %d 1\njump 0\nfunc\nnop\nsend %d 1\nrecv %d 1 2\njump 1\n", 2*pair, 2*pair+1, 2*pair, 2*pair+1)
	}
	for pair := range 4 {
		text += fmt.Sprintf("spawn %d 0 1\n", 2*pair+2)
	}
	// One of n begins two of n - 1, if n isn't 0, and is busy then: of 5 they are 63.
	tree := "func\nconst 1 1\nsub 1 0 1\nif 0 4\njump 6\nspawn 9 1 2\nspawn 9 1 2\njump 6"
	p := program(t, text+"const 1 5\nspawn 9 1 2\njump 10\n"+funcs+tree)
	for w := 1; w < 6; w++ {
		c := sched.Config{P: 1, M: 2, Ring: 16, Slice: 3}
		if w == 1 {
			c.M = 1
		}
		round := append(times(uint64(c.M)-1, 1), times(0, w-1)...)
		numbers := slices.Repeat(round, 9000)
		got := fair.Watch(p, c, numbers, 1<<40)
		holds(t, c, got)
		if want := live(p, c, numbers, 1<<40).report(c.M); got != want {
			t.Errorf("%+v, not %+v", got, want)
		}
		most := fair.Bound(c, w, 72)
		if got.Steps != len(numbers) || got.Goroutines != 72 || got.Window != w || 3*got.Longest < most {
			t.Errorf("a window of %d: %+v, the bound is %d", w, got, most)
		}
	}
}
