package snap_test

import (
	"fmt"
	"slices"
	"testing"

	"shunter/api"
	"shunter/chans"
	"shunter/frame"
	"shunter/heap"
	"shunter/sched"
	"shunter/snap"
	"shunter/world"
)

// view is all that a world shows of itself, with so many channels and locks.
type view struct {
	End, Why   int
	Clock      uint64
	Goroutines []world.G
	Chans      []chans.State
	Locks      []lock
	Sleepers   []heap.Item
	Out        []int64
}

type lock struct {
	Owner int
	Waits []int
}

// look is a world's.
func look(w *world.World, channels, locks int) view {
	v := view{Clock: w.Clock(), Sleepers: w.Sleepers(), Out: w.Out()}
	v.End, v.Why = w.End()
	for g := range w.Len() {
		v.Goroutines = append(v.Goroutines, world.G{Status: w.Status(g), Stack: w.Stack(g)})
	}
	for i := range channels {
		v.Chans = append(v.Chans, w.Chan(i))
	}
	for i := range locks {
		var l lock
		l.Owner, l.Waits = w.Lock(i)
		v.Locks = append(v.Locks, l)
	}
	return v
}

// queues is all that a scheduler shows beside its world.
type queues struct {
	Steps, Status int
	Global        []int
	Processors    []sched.Processor
	Machines      []sched.Machine
}

func lookAtQueues(s *sched.Sched) queues {
	return queues{s.Steps(), s.Status(), s.Global(), s.Processors(), s.Machines()}
}

// reader reads numbers back.
type reader []int64

func (r *reader) next() int64 {
	if len(*r) == 0 {
		panic("the numbers end too soon")
	}
	v := (*r)[0]
	*r = (*r)[1:]
	return v
}

func (r *reader) int() int { return int(r.next()) }

// many reads a list.
func many[T any](r *reader, read func() T) []T {
	var l []T
	for range r.next() {
		l = append(l, read())
	}
	return l
}

func (r *reader) frame() frame.Frame {
	f := frame.Frame{Func: r.int(), At: r.int()}
	for i := range api.Regs {
		f.R[i] = r.next()
	}
	f.Into = r.int()
	return f
}

func (r *reader) goroutine() world.G {
	return world.G{Status: r.int(), Stack: many(r, r.frame)}
}

func (r *reader) wait() chans.Wait {
	return chans.Wait{G: r.int(), Case: r.int(), V: r.next()}
}

func (r *reader) channel() chans.State {
	return chans.State{Closed: r.next() == 1, Buffer: many(r, r.next), Senders: many(r, r.wait), Receivers: many(r, r.wait)}
}

func (r *reader) sleeper() heap.Item {
	return heap.Item{At: uint64(r.next()), Seq: uint64(r.next()), ID: r.int()}
}

func (r *reader) processor() sched.Processor {
	return sched.Processor{Next: r.int(), Ring: many(r, r.int), Turns: r.int(), By: r.int()}
}

func (r *reader) machine() sched.Machine {
	return sched.Machine{P: r.int(), G: r.int(), Left: r.int()}
}

// world reads a world's numbers.
func (r *reader) world(channels, locks int) view {
	v := view{End: r.int(), Why: r.int(), Clock: uint64(r.next())}
	v.Goroutines = many(r, r.goroutine)
	for range channels {
		v.Chans = append(v.Chans, r.channel())
	}
	for range locks {
		v.Locks = append(v.Locks, lock{r.int(), many(r, r.int)})
	}
	v.Sleepers, v.Out = many(r, r.sleeper), many(r, r.next)
	return v
}

func (r *reader) queues() queues {
	return queues{r.int(), r.int(), many(r, r.int), many(r, r.processor), many(r, r.machine)}
}

// same: do two show the same? Lists that are nil, and those without anything, do.
func same(a, b any) bool {
	return fmt.Sprintf("%+v", a) == fmt.Sprintf("%+v", b)
}

// readBack: all that a scheduler and its world show stands in the numbers, and nothing else does.
func readBack(t *testing.T, s *sched.Sched, channels, locks int) {
	t.Helper()
	r := reader(slices.Clone(snap.Queues(s)))
	if got, want := r.queues(), lookAtQueues(s); !same(got, want) || len(r) > 0 {
		t.Fatalf("Queues behind %d steps: %+v, and %v, not %+v", s.Steps(), got, r, want)
	}
	r = reader(slices.Clone(snap.World(s.World(), channels, locks)))
	if got, want := r.world(channels, locks), look(s.World(), channels, locks); !same(got, want) || len(r) > 0 {
		t.Fatalf("World behind %d steps: %+v, and %v, not %+v", s.Steps(), got, r, want)
	}
	r = reader(slices.Clone(snap.All(s, channels, locks)))
	if q, w := r.queues(), r.world(channels, locks); !same(q, lookAtQueues(s)) || !same(w, look(s.World(), channels, locks)) || len(r) > 0 {
		t.Fatalf("All behind %d steps: %+v, %+v, and %v", s.Steps(), q, w, r)
	}
}
