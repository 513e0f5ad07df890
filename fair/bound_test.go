package fair_test

import (
	"math/big"
	"math/rand"
	"testing"

	"shunter/fair"
	"shunter/sched"
)

// P24.1: the edges of Bound, by hand.
func TestBound(t *testing.T) {
	small, great := sched.Config{P: 1, M: 1, Ring: 2, Slice: 1}, sched.Config{P: 64, M: 64, Ring: 1024, Slice: 1024}
	for _, c := range []struct {
		name               string
		c                  sched.Config
		window, goroutines int
		want               int
	}{
		{"no window, no goroutines", small, 0, 0, 0},
		{"no window, one", small, 0, 1, 0},
		{"no window, many, great turns", great, 0, 1 << 20, 0},
		{"a window of 1, no goroutines", small, 1, 0, 4*(7*2+4*4) + 8},
		{"a window of 1, one", small, 1, 1, 4*(7*3+4*4) + 8},
		{"a window of 2, three", small, 2, 3, 8*(7*5+4*4) + 16},
		{"a window of 5, a hundred", small, 5, 100, 20*(7*102+4*4) + 40},
		{"the greatest window, no goroutines", small, 1 << 20, 0, 128 << 20},
		{"a window of 1, the most goroutines", small, 1, 1 << 20, 29360256},
		{"a great ring and turn, a window of 1, one", great, 1, 1, 8456258},
		{"a great ring", sched.Config{P: 1, M: 1, Ring: 1024, Slice: 1}, 1, 1, 4*(21+4104) + 8},
		{"a great turn", sched.Config{P: 1, M: 1, Ring: 2, Slice: 1024}, 1, 1, 2050*(21+16) + 8},
		{"the greatest window, the most goroutines, a great ring and turn", great, 1 << 20, 1 << 20, 15786843840708608},
		{"a config of nothing", sched.Config{}, 1, 0, 2*(7*2+4*2) + 8},
		{"a config of nothing, some", sched.Config{}, 3, 4, 6*(7*6+4*2) + 24},
		{"a ring and a turn of 2^20", sched.Config{P: 1 << 20, M: 1 << 20, Ring: 1 << 20, Slice: 1 << 20}, 1, 1, 8796162228290},
		{"a ring and a turn of 2^20, a hundred", sched.Config{P: 1, M: 1, Ring: 1 << 20, Slice: 1 << 20}, 100, 100, 879761555601200},
	} {
		if got := fair.Bound(c.c, c.window, c.goroutines); got != c.want {
			t.Errorf("%s: %d, not %d", c.name, got, c.want)
		}
	}
}

// P24.1: how many processors and machines there are says nothing.
func TestBoundOfAnyMachines(t *testing.T) {
	for _, p := range []int{0, 1, 2, 64, 1 << 20} {
		for _, m := range []int{0, 1, 2, 64, 1 << 20} {
			if got := fair.Bound(sched.Config{P: p, M: m, Ring: 5, Slice: 3}, 4, 6); got != 32*(56+28)+32 {
				t.Errorf("%d processors, %d machines: %d", p, m, got)
			}
		}
	}
}

// bound by the chapter's words, in numbers without an end.
func bound(c sched.Config, window, goroutines int) *big.Int {
	n := func(v int) *big.Int { return big.NewInt(int64(v)) }
	times := func(a, b *big.Int) *big.Int { return new(big.Int).Mul(a, b) }
	and := func(a, b *big.Int) *big.Int { return new(big.Int).Add(a, b) }
	turn := times(and(times(n(2), n(c.Slice)), n(2)), n(window))
	turns := and(times(n(7), and(n(goroutines), n(2))), times(n(4), and(n(c.Ring), n(2))))
	return and(times(turn, turns), times(n(8), n(window)))
}

// P24.1: drawn numbers from 0 to 2^20; also where they come above an int, which goes round as in Go.
func TestBoundOfDrawnNumbers(t *testing.T) {
	r := rand.New(rand.NewSource(24))
	number := func() int { return r.Intn(2<<r.Intn(21)) >> 1 }
	above := 0
	for range 20000 {
		c := sched.Config{P: number(), M: number(), Ring: number(), Slice: number()}
		if r.Intn(5) == 0 {
			c.Ring, c.Slice = 1<<20-r.Intn(2), 1<<20-r.Intn(2)
		}
		window, goroutines := number(), number()
		if r.Intn(5) == 0 {
			window, goroutines = 1<<20-r.Intn(2), 1<<20-r.Intn(2)
		}
		want := bound(c, window, goroutines)
		if want.BitLen() > 63 {
			above++
		}
		round := new(big.Int).And(want, new(big.Int).SetUint64(1<<64-1))
		if got := fair.Bound(c, window, goroutines); uint64(got) != round.Uint64() {
			t.Fatalf("%+v, %d, %d: %d, not %v", c, window, goroutines, got, want)
		}
	}
	if above == 0 || above > 5000 {
		t.Errorf("%d are above an int", above)
	}
}
