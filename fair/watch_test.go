package fair_test

import (
	"fmt"
	"math"
	"slices"
	"strings"
	"testing"

	"shunter/fair"
	"shunter/sched"
)

// watching is a Watch, and what it must answer.
type watching struct {
	name    string
	c       sched.Config
	text    string
	numbers []uint64
	most    int
	want    fair.Report
}

// holds holds them against each other; what the model says, too.
func (x watching) holds(t *testing.T) {
	t.Helper()
	p := program(t, x.text)
	watches(t, x.name, p, x.c, x.numbers, x.most, x.want)
	if got := live(p, x.c, x.numbers, x.most).report(x.c.M); got != x.want {
		t.Errorf("%s: the model says %+v, not %+v", x.name, got, x.want)
	}
}

// times are so many of the same.
func times(n uint64, many int) []uint64 {
	return slices.Repeat([]uint64{n}, many)
}

// row lays numbers one behind the other.
func row(l ...[]uint64) []uint64 {
	return slices.Concat(l...)
}

// nops are so many lines.
func nops(many int) string {
	return strings.Repeat("nop\n", many)
}

// turn is a config of one machine, and one processor, of so many instructions a turn.
func turn(slice int) sched.Config {
	return sched.Config{P: 1, M: 1, Ring: 4, Slice: slice}
}

var two = sched.Config{P: 2, M: 2, Ring: 4, Slice: 9}

const (
	spins = "func\njump 0"
	busy  = "func\nspawn 1 0 1\nspawn 1 0 1\njump 2\nfunc\njump 0" // three of them
)

// P24.1: goroutine 0 waits from ahead of the first step: up to its first instruction, or, if it does none, to the run's last step.
func TestTheFirstWaits(t *testing.T) {
	for most, want := range map[int]fair.Report{
		math.MinInt: {Goroutines: 1},
		-1:          {Goroutines: 1},
		0:           {Goroutines: 1},
		1:           {Steps: 1, Goroutines: 1, Window: 1, Longest: 1}, // held
		2:           {Steps: 2, Goroutines: 1, Window: 1, Longest: 2}, // found
		3:           {Steps: 3, Goroutines: 1, Window: 1, Longest: 3}, // ran
		4:           {Steps: 4, Goroutines: 1, Window: 1, Longest: 3},
		5:           {Steps: 5, Goroutines: 1, Window: 1, Longest: 3},
		6:           {Steps: 6, Goroutines: 1, Window: 1, Longest: 3},
		99:          {Steps: 6, Goroutines: 1, Window: 1, Longest: 3},
		math.MaxInt: {Steps: 6, Goroutines: 1, Window: 1, Longest: 3},
	} {
		watching{"one that spins", turn(9), spins, times(0, 6), most, want}.holds(t)
		watching{"one that spins, turns of 1", turn(1), spins, times(0, 6), most, want}.holds(t)
	}
	for _, x := range []watching{
		{"no numbers", turn(9), spins, nil, 9, fair.Report{Goroutines: 1}},
		{"an empty list of numbers", two, spins, []uint64{}, 9, fair.Report{Goroutines: 1}},
		{"no numbers, no steps", turn(9), spins, nil, 0, fair.Report{Goroutines: 1}},
		{"the clock alone", turn(9), spins, times(1, 5), 9, fair.Report{Steps: 5, Goroutines: 1, Longest: 5}},
		{"the clock ahead", turn(9), spins, row(times(1, 5), times(0, 4)), 99, fair.Report{Steps: 9, Goroutines: 1, Window: 6, Longest: 8}},
		{"the clock between", turn(9), spins, []uint64{0, 1, 1, 0, 1, 0, 0}, 99, fair.Report{Steps: 7, Goroutines: 1, Window: 3, Longest: 6}},
		{"numbers above those of the machines", turn(9), spins, []uint64{2, 4, 1 << 63, 1 << 32, math.MaxUint64}, 99, fair.Report{Steps: 5, Goroutines: 1, Window: 2, Longest: 3}},
		{"a machine that finds no processor", sched.Config{P: 1, M: 2, Ring: 2, Slice: 2}, spins, []uint64{0, 1, 1, 1, 0, 1, 0}, 99, fair.Report{Steps: 7, Goroutines: 1, Window: 4, Longest: 7}},
		{"one machine never picked", two, spins, []uint64{1, 1, 1, 1}, 99, fair.Report{Steps: 4, Goroutines: 1, Longest: 3}},
	} {
		x.holds(t)
	}
}

// P24.1: runs that end: behind the end nothing is drawn. Reached just at the end, ahead of it, behind it.
func TestRunsThatEnd(t *testing.T) {
	for _, end := range []string{"return 0", "trap 7", "recv 0 1 2"} {
		for most, want := range map[int]fair.Report{
			0:           {Goroutines: 1},
			2:           {Steps: 2, Goroutines: 1, Window: 1, Longest: 2},
			3:           {Steps: 3, Goroutines: 1, Window: 1, Longest: 3},
			4:           {Steps: 3, Goroutines: 1, Window: 1, Longest: 3},
			math.MaxInt: {Steps: 3, Goroutines: 1, Window: 1, Longest: 3},
		} {
			for _, numbers := range [][]uint64{times(0, 3), times(0, 4), times(0, 50), row(times(0, 3), times(1, 9))} {
				watching{end, turn(9), "chan 0\nfunc\n" + end, numbers, most, want}.holds(t)
			}
		}
	}
	// A function without an instruction any more.
	watching{"no instruction", turn(9), "func\nnop", times(0, 9), 99, fair.Report{Steps: 4, Goroutines: 1, Window: 1, Longest: 3}}.holds(t)
}

// P24.1: who waits when all ends, and who is never let on, waits to the run's last step: it is spawned by step 2.
func TestOneThatIsNeverLetOn(t *testing.T) {
	for _, end := range []string{"return 0", "trap 0", "unlock 0"} {
		text := "locks 1\nfunc\nspawn 1 0 1\n" + nops(5) + end + "\nfunc\nnop"
		for most, want := range map[int]fair.Report{
			3:  {Steps: 3, Goroutines: 2, Window: 1, Longest: 3},
			5:  {Steps: 5, Goroutines: 2, Window: 1, Longest: 3},
			6:  {Steps: 6, Goroutines: 2, Window: 1, Longest: 3},
			7:  {Steps: 7, Goroutines: 2, Window: 1, Longest: 4},
			8:  {Steps: 8, Goroutines: 2, Window: 1, Longest: 5},
			9:  {Steps: 9, Goroutines: 2, Window: 1, Longest: 6},
			10: {Steps: 9, Goroutines: 2, Window: 1, Longest: 6},
		} {
			watching{end, turn(9), text, times(0, 99), most, want}.holds(t)
		}
	}
	watching{"behind one that goes on for ever", turn(1024), "func\nspawn 1 0 1\njump 1\nfunc\nnop", times(0, 999), 100, fair.Report{Steps: 100, Goroutines: 2, Window: 1, Longest: 97}}.holds(t)
	// Of two that wait the one that waits longer counts: 1 since step 2, 2 since step 3.
	watching{"two of them", turn(1024), "func\nspawn 1 0 1\nspawn 1 0 1\njump 2\nfunc\nnop", times(0, 999), 50, fair.Report{Steps: 50, Goroutines: 3, Window: 1, Longest: 47}}.holds(t)
}

// P24.1: three that are busy, at one machine, by turns of 4: steps 2 to 5 are 0's, 7 to 10 are 1's, 12 to 15 are 2's, 17 on 0's; 1 began by step 2, 2 by step 3.
func TestOneReadyBehindItsInstruction(t *testing.T) {
	for most, longest := range map[int]int{7: 4, 8: 5, 11: 7, 12: 8, 13: 9, 14: 9, 15: 9, 16: 10, 17: 11, 18: 12, 19: 12, 23: 12, 99: 12} {
		watching{"three that are busy", turn(4), busy, times(0, 200), most, fair.Report{Steps: most, Goroutines: 3, Window: 1, Longest: longest}}.holds(t)
	}
	// Neither Yield nor a Sleep of 0 lets it go on at once, but it is Ready.
	for _, op := range []string{"yield", "sleep 1"} {
		text := "func\n" + op + "\njump 0"
		watching{op, turn(9), text, row(times(0, 3), times(1, 4), times(0, 2)), 99, fair.Report{Steps: 9, Goroutines: 1, Window: 5, Longest: 6}}.holds(t)
		watching{op + ", at the end", turn(9), text, row(times(0, 3), times(1, 9)), 99, fair.Report{Steps: 12, Goroutines: 1, Window: 10, Longest: 9}}.holds(t)
	}
}

// P24.1: one that sleeps doesn't wait; it does since the clock woke it.
func TestOneThatTheClockWakes(t *testing.T) {
	text := "func\nconst 1 3\nsleep 1\njump 1"
	for ticks, want := range map[int]fair.Report{
		0:  {Steps: 6, Goroutines: 1, Window: 1, Longest: 3},
		2:  {Steps: 8, Goroutines: 1, Window: 3, Longest: 3},
		3:  {Steps: 9, Goroutines: 1, Window: 4, Longest: 3},
		4:  {Steps: 10, Goroutines: 1, Window: 5, Longest: 3},
		5:  {Steps: 11, Goroutines: 1, Window: 6, Longest: 4},
		12: {Steps: 18, Goroutines: 1, Window: 13, Longest: 11},
	} {
		// It sleeps by step 3; it can be found, and goes on, two steps behind the clock's last one.
		watching{fmt.Sprint(ticks, " ticks"), turn(9), text, row(times(0, 4), times(1, ticks), times(0, 2)), 99, want}.holds(t)
	}
	watching{"it isn't let on any more", turn(9), text, row(times(0, 4), times(1, 12)), 99, fair.Report{Steps: 16, Goroutines: 1, Window: 13, Longest: 9}}.holds(t)
	watching{"it sleeps on", turn(9), "func\nconst 1 99\nsleep 1", row(times(0, 4), times(1, 50)), 99, fair.Report{Steps: 54, Goroutines: 1, Window: 51, Longest: 3}}.holds(t)
}

// P24.1: one that waits for another doesn't wait as one who can go on; it does since it was woken.
func TestOneThatAnotherWakes(t *testing.T) {
	for _, x := range []watching{
		// 0 waits to receive by step 3; step 15 wakes it, the turn goes on to 22, 0 goes on by 24.
		{"by a send", turn(20), "chan 0\nfunc\nspawn 1 0 1\nrecv 0 1 2\njump 1\nfunc\n" + nops(10) + "send 0 1\njump 11", times(0, 99), 25, fair.Report{Steps: 25, Goroutines: 2, Window: 1, Longest: 9}},
		// Likewise, to send.
		{"by a receive", turn(20), "chan 0\nfunc\nspawn 1 0 1\nsend 0 1\njump 1\nfunc\n" + nops(10) + "recv 0 1 2\njump 11", times(0, 99), 25, fair.Report{Steps: 25, Goroutines: 2, Window: 1, Longest: 9}},
		// Likewise, at a select.
		{"of a select", turn(20), "chan 0\nchan 0\nsend 1 1\nrecv 0 1\nfunc\nspawn 1 0 1\nselect 0 2 3\njump 2\nfunc\n" + nops(10) + "send 0 1\njump 11", times(0, 99), 25, fair.Report{Steps: 25, Goroutines: 2, Window: 1, Longest: 9}},
		// 1 waits for the lock by step 6; 0 gives it by step 8, and goes on to 27; 1 goes on by 29.
		{"by a lock", turn(20), "locks 1\nfunc\nlock 0\nspawn 1 0 1\nyield\nunlock 0\njump 4\nfunc\nlock 0\njump 1", times(0, 99), 30, fair.Report{Steps: 30, Goroutines: 2, Window: 1, Longest: 21}},
		// 2 and 1 wait by steps 6 and 8; 0 closes by step 10, and goes on to 49; 2 goes on from 51 to 90, 1 from 92 on.
		{"several by a close", turn(40), "chan 0\nfunc\nspawn 1 0 1\nspawn 1 0 1\nyield\nclose 0\njump 4\nfunc\nrecv 0 1 2\njump 1", times(0, 99), 93, fair.Report{Steps: 93, Goroutines: 3, Window: 1, Longest: 82}},
		{"several by a close, the last one not yet", turn(40), "chan 0\nfunc\nspawn 1 0 1\nspawn 1 0 1\nyield\nclose 0\njump 4\nfunc\nrecv 0 1 2\njump 1", times(0, 99), 92, fair.Report{Steps: 92, Goroutines: 3, Window: 1, Longest: 81}},
		{"several by a close, none of them yet", turn(40), "chan 0\nfunc\nspawn 1 0 1\nspawn 1 0 1\nyield\nclose 0\njump 4\nfunc\nrecv 0 1 2\njump 1", times(0, 99), 50, fair.Report{Steps: 50, Goroutines: 3, Window: 1, Longest: 39}},
	} {
		x.holds(t)
	}
}

// P24.1: one that is done, or waits for what never comes, waits no more, however long the run is.
func TestOneThatWaitsNoMore(t *testing.T) {
	for _, end := range []string{"return 0", "recv 0 1 2", "send 0 1", "lock 0\nlock 0", "select 0 1 1", "const 1 1000\nsleep 1"} {
		text := "chan 0\nlocks 1\nrecv 0 1\nfunc\nspawn 1 0 1\nyield\njump 2\nfunc\n" + end
		x := watching{end, turn(9), text, times(0, 99), 60, fair.Report{Steps: 60, Goroutines: 2, Window: 1, Longest: 4}}
		if strings.Contains(end, "\n") {
			// One more instruction ahead of it, so 0, which yields by step 3, goes on by step 8.
			x.want.Longest = 5
		}
		x.holds(t)
	}
}

// P24.1: how many goroutines there ever were: those that are done among them, up to as many as there may be.
func TestGoroutines(t *testing.T) {
	ends := "func\nspawn 1 0 1\nyield\njump 0\nfunc\nreturn 0"
	for most, want := range map[int]fair.Report{
		0:  {Goroutines: 1},
		2:  {Steps: 2, Goroutines: 1, Window: 1, Longest: 2},
		3:  {Steps: 3, Goroutines: 2, Window: 1, Longest: 3},
		8:  {Steps: 8, Goroutines: 2, Window: 1, Longest: 4},
		9:  {Steps: 9, Goroutines: 3, Window: 1, Longest: 4},
		14: {Steps: 14, Goroutines: 3, Window: 1, Longest: 4},
		15: {Steps: 15, Goroutines: 4, Window: 1, Longest: 4},
		30: {Steps: 30, Goroutines: 6, Window: 1, Longest: 4},
	} {
		watching{"each is done ahead of the next", turn(20), ends, times(0, 99), most, want}.holds(t)
	}
	many := "func\nspawn 1 0 1\njump 0\nfunc\nnop"
	for _, ring := range []int{2, 1024} {
		c := sched.Config{P: 1, M: 1, Ring: ring, Slice: 1024}
		watching{"too many", c, many, times(0, 999), 999, fair.Report{Steps: 201, Goroutines: 100, Window: 1, Longest: 198}}.holds(t)
		watching{"as many as there may be", c, many, times(0, 999), 200, fair.Report{Steps: 200, Goroutines: 100, Window: 1, Longest: 197}}.holds(t)
		watching{"one less", c, many, times(0, 999), 198, fair.Report{Steps: 198, Goroutines: 99, Window: 1, Longest: 195}}.holds(t)
	}
}

// P24.1: numbers that end within a step: it is none, but what it drew was drawn, and counts in the window.
func TestDrawsThatEndWithinAStep(t *testing.T) {
	for _, op := range []string{"select 0 2 2", "rand 1 5"} {
		text := "chan 1\nchan 1\nsend 0 1\nsend 1 1\nfunc\n" + op + "\njump 0"
		for _, x := range []watching{
			{"of one machine", turn(9), text, times(0, 3), 99, fair.Report{Steps: 2, Goroutines: 1, Window: 1, Longest: 2}},
			{"a draw more", turn(9), text, times(0, 4), 99, fair.Report{Steps: 3, Goroutines: 1, Window: 1, Longest: 3}},
			{"the clock between", turn(9), text, []uint64{0, 0, 1, 1, 1, 0}, 99, fair.Report{Steps: 5, Goroutines: 1, Window: 4, Longest: 5}},
			// Picks 1, 0, 0, and 0 within.
			{"of two machines", two, text, []uint64{1, 0, 0, 0}, 99, fair.Report{Steps: 3, Goroutines: 1, Window: 4, Longest: 3}},
			{"of two machines, ahead of it", two, text, []uint64{1, 0, 0}, 99, fair.Report{Steps: 3, Goroutines: 1, Window: 3, Longest: 3}},
			{"of two machines, and no step more", two, text, []uint64{1, 0, 0, 0}, 3, fair.Report{Steps: 3, Goroutines: 1, Window: 3, Longest: 3}},
		} {
			x.name = op + ", " + x.name
			x.holds(t)
		}
	}
	// Machine 1 looks, by a Victim of 0, parks, holds again, and looks once more: picks 0, 1, 0, 1, 1, and 1 within.
	watching{"a victim", two, spins, []uint64{0, 1, 0, 1, 0, 1, 1}, 99, fair.Report{Steps: 5, Goroutines: 1, Window: 4, Longest: 5}}.holds(t)
	watching{"a victim, ahead of it", two, spins, []uint64{0, 1, 0, 1, 0, 1}, 99, fair.Report{Steps: 5, Goroutines: 1, Window: 3, Longest: 5}}.holds(t)
}

// P24.1: draws of other kinds are none of a machine, whatever their numbers.
func TestDrawsOfOtherKinds(t *testing.T) {
	for _, x := range []watching{
		{"rands of 1 and 2, of one machine", turn(9), "func\nrand 1 5\njump 0", []uint64{0, 0, 0, 1, 0, 0, 2, 0, 0, 1}, 99, fair.Report{Steps: 7, Goroutines: 1, Window: 1, Longest: 3}},
		{"rands of machines that are never picked", sched.Config{P: 2, M: 2, Ring: 2, Slice: 9}, "func\nrand 1 5\njump 0", []uint64{0, 0, 0, 1, 0, 0, 1, 0, 0, 1}, 99, fair.Report{Steps: 7, Goroutines: 1, Longest: 3}},
		{"cases", sched.Config{P: 2, M: 2, Ring: 2, Slice: 9}, "chan 9\nchan 9\nsend 0 1\nsend 1 1\nfunc\nselect 0 2 1\njump 0", []uint64{0, 0, 0, 1, 0, 0, 1, 0, 0, 1}, 99, fair.Report{Steps: 7, Goroutines: 1, Longest: 3}},
		// Machine 1 parks by Victims of 0 alone: picks 1, 0, 0, 1, 1, 1, 1.
		{"victims", two, spins, []uint64{1, 0, 0, 1, 0, 1, 1, 0, 1}, 99, fair.Report{Steps: 7, Goroutines: 1, Window: 5, Longest: 7}},
	} {
		x.holds(t)
	}
}

// P24.1: one that is stolen waits since it came to be Ready, not since it was stolen: 1, since step 2.
func TestOneThatIsStolen(t *testing.T) {
	numbers := []uint64{0, 0, 0, 0, 1, 1, 0, 1, 1, 1}
	for most, want := range map[int]fair.Report{
		5: {Steps: 5, Goroutines: 3, Window: 5, Longest: 3},
		6: {Steps: 6, Goroutines: 3, Window: 5, Longest: 3},
		7: {Steps: 7, Goroutines: 3, Window: 5, Longest: 4},
		8: {Steps: 8, Goroutines: 3, Window: 5, Longest: 4},
		9: {Steps: 9, Goroutines: 3, Window: 6, Longest: 5},
	} {
		watching{"stolen", two, busy, numbers, most, want}.holds(t)
	}
	// The clock between the theft and its instruction.
	watching{"stolen, and let on late", two, busy, row(numbers[:7], times(2, 9), []uint64{1}), 99, fair.Report{Steps: 16, Goroutines: 3, Window: 13, Longest: 13}}.holds(t)
}

// P24.1: those that run over a ring of 2 into the global row wait on there: five are spawned, by steps 2 to 6.
func TestOneThatRunsOverTheRing(t *testing.T) {
	text := "func\n" + strings.Repeat("spawn 1 0 1\n", 5) + "jump 5\nfunc\njump 0"
	c := sched.Config{P: 1, M: 1, Ring: 2, Slice: 5}
	// The ring has 1 and 2, as 3 goes next; 4 sends 1 and 3 away, 0's new turn sends 2 and 5; so the turns are 0's, 4's, 1's, 3's, 0's, 2's, 5's, 4's, ..
	for most, longest := range map[int]int{8: 5, 15: 12, 21: 17, 33: 29, 39: 32, 99: 32} {
		watching{"over the ring", c, text, times(0, 99), most, fair.Report{Steps: most, Goroutines: 6, Window: 1, Longest: longest}}.holds(t)
	}
}
