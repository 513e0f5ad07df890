package fair_test

import (
	"math/rand"
	"testing"

	"shunter/fair"
	"shunter/sample"
	"shunter/sched"
)

// P24.1: drawn programs, configs, numbers and mosts, by the chapter's words; FAIR of each.
func TestDrawnRuns(t *testing.T) {
	seen := map[string]int{}
	for seed := range int64(6000) {
		r := rand.New(rand.NewSource(seed))
		p, c := sample.Program(r), sample.Config(r)
		numbers := sample.Numbers(r, c, r.Intn(sample.Some(r, 10, 100, 700)))
		most := sample.Some(r, 1<<40, 1<<40, r.Intn(700), r.Intn(50), 0, -1)
		x := live(p, c, numbers, most)
		want := x.report(c.M)
		got := fair.Watch(p, c, numbers, most)
		if got != want {
			t.Fatalf("seed %d: %+v, not %+v", seed, got, want)
		}
		holds(t, c, got)
		for what := range x.seen {
			seen[what]++
		}
		counts(seen, c, want)
	}
	enough(t, seen, map[string]int{
		"going": 3000, "halted": 15, "trapped": 60, "deadlock": 200, "dry": 2000, "stolen": 600, "woken by the clock": 250,
		"ran over the ring": 400, "came into the global row": 1500, "a window": 2000, "no window": 1000, "a wait above the window": 1000, "many goroutines": 600,
	})
}

// holds is FAIR of a run.
func holds(t *testing.T, c sched.Config, x fair.Report) {
	t.Helper()
	if most := fair.Bound(c, x.Window, x.Goroutines); x.Window > 0 && x.Longest > most {
		t.Errorf("%+v: %+v, the bound is %d", c, x, most)
	}
}

// counts what sort a run was.
func counts(seen map[string]int, c sched.Config, x fair.Report) {
	sort := func(what string, is bool) {
		if is {
			seen[what]++
		}
	}
	sort("a window", x.Window > 0)
	sort("no window", x.Window == 0)
	sort("a wait above the window", x.Window > 0 && x.Longest > x.Window)
	sort("a hundredth of the bound", x.Window > 0 && 100*x.Longest > fair.Bound(c, x.Window, x.Goroutines))
	sort("many goroutines", x.Goroutines > 5)
}

func enough(t *testing.T, seen, least map[string]int) {
	t.Helper()
	for what, many := range least {
		if seen[what] < many {
			t.Errorf("%s: %d times, not %d", what, seen[what], many)
		}
	}
}

// P24.1: numbers that end, and a most that is reached, come to the same, where each step draws one number alone; more numbers, or a greater most, change nothing of a run that ended.
func TestEachMost(t *testing.T) {
	for seed := range int64(60) {
		r := rand.New(rand.NewSource(seed))
		p, c := sample.Program(r), sample.Config(r)
		numbers := sample.Numbers(r, c, 150)
		all := live(p, c, numbers, 1<<40)
		for most := range len(all.ran) + 3 {
			x := live(p, c, numbers, most)
			if got, want := fair.Watch(p, c, numbers, most), x.report(c.M); got != want {
				t.Fatalf("seed %d, at most %d: %+v, not %+v", seed, most, got, want)
			}
			// The numbers that were drawn, and no more of them.
			if got, want := fair.Watch(p, c, numbers[:len(x.drawn)], 1<<40), x.report(c.M); got != want {
				t.Fatalf("seed %d, %d numbers: %+v, not %+v", seed, len(x.drawn), got, want)
			}
		}
	}
}
