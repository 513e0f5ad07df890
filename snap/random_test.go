package snap_test

import (
	"fmt"
	"math/rand"
	"slices"
	"testing"

	"shunter/code"
	"shunter/sample"
	"shunter/sched"
	"shunter/snap"
	"shunter/source"
	"shunter/world"
)

// answers are numbers that were answered, and what they were then.
type answers struct {
	kept, still [][]int64
}

func (a *answers) keep(l []int64) {
	a.kept, a.still = append(a.kept, l), append(a.still, slices.Clone(l))
}

func (a *answers) stay() bool {
	return slices.EqualFunc(a.kept, a.still, slices.Equal)
}

// spoil: whatever a list has, and what is behind its end, is another now.
func spoil(l []int64) {
	l = l[:cap(l)]
	for i := range l {
		l[i] = 1 << 40
	}
}

// happened counts what numbers were held against.
func happened(seen map[string]int, s *sched.Sched, e sched.Event) {
	count := func(name string, is bool) {
		if is {
			seen[name]++
		}
	}
	for _, p := range s.Processors() {
		count("empty ring", len(p.Ring) == 0)
		count("ring of two", len(p.Ring) == 2)
		count("nobody holds it", p.By == sched.None)
		count("somebody goes next", p.Next != sched.None)
	}
	count("long global row", len(s.Global()) > 5)
	w := s.World()
	for g := range w.Len() {
		count([]string{"", "ready", "waiting", "asleep", "done"}[w.Status(g)], true)
		count("several frames", len(w.Stack(g)) > 1)
	}
	for i := range 4 {
		c := w.Chan(i)
		count("closed", c.Closed)
		count("something in it", len(c.Buffer) > 0)
		count("several senders", len(c.Senders) > 1)
		count("several receivers", len(c.Receivers) > 1)
		_, waits := w.Lock(i)
		count("several at a lock", len(waits) > 1)
	}
	l := w.Sleepers()
	count("of the same time", len(l) > 1 && l[0].At == l[1].At)
	count("told", len(w.Out()) > 1)
	end, _ := w.End()
	count([]string{"runs", "halted", "trapped"}[end], true)
	count([]string{"none", "ticked", "held", "idle", "found", "stole", "parked", "ran"}[e.Kind], true)
}

// P19.1, P19.2, K3: behind steps of many runs all that is shown can be read back out of the numbers; what was answered stays as it is, and what becomes of it changes nothing.
func TestManyRuns(t *testing.T) {
	seen := map[string]int{}
	for seed := range int64(300) {
		r := rand.New(rand.NewSource(seed))
		p, c := sample.Program(r), sample.Config(r)
		draws := source.Oracle(sample.Numbers(r, c, 350))
		s := sched.New(p, c, draws)
		var kept answers
		source.Guard(func() {
			for s.Status() == sched.Going {
				e := s.Step()
				if s.Status() == sched.Going && r.Intn(4) > 0 {
					continue
				}
				happened(seen, s, e)
				channels, locks := r.Intn(6), r.Intn(4)
				readBack(t, s, channels, locks)
				kept.keep(snap.Queues(s))
				kept.keep(snap.World(s.World(), channels, locks))
				kept.keep(snap.All(s, channels, locks))
				spoil(snap.Queues(s))
				spoil(snap.World(s.World(), channels, locks))
				spoil(snap.All(s, channels, locks))
			}
		})
		if !kept.stay() {
			t.Fatalf("seed %d: what was answered changed", seed)
		}
	}
	for name, n := range map[string]int{
		"ticked": 200, "held": 200, "idle": 100, "found": 200, "stole": 50, "parked": 100, "ran": 1000,
		"runs": 1000, "halted": 4, "trapped": 8, "ready": 1000, "waiting": 1000, "asleep": 200, "done": 200,
		"empty ring": 1000, "ring of two": 200, "nobody holds it": 200, "somebody goes next": 200, "long global row": 100,
		"several frames": 50, "closed": 50, "something in it": 200, "several senders": 100, "several receivers": 100,
		"several at a lock": 100, "of the same time": 20, "told": 50,
	} {
		if seen[name] < n {
			t.Errorf("%s: %d times", name, seen[name])
		}
	}
}

// drift is a program's world behind some moves.
func drift(r *rand.Rand, p code.Program, moves int) *world.World {
	w := world.New(p)
	for range moves {
		if g := r.Intn(w.Len() + 1); g == w.Len() {
			w.Tick()
		} else {
			w.Exec(g, func(_, n int) int { return r.Intn(n) })
		}
	}
	return w
}

// P19.2, K4: of many worlds of one program those have the same numbers that show the same, and no others.
func TestTheSameNumbersTheSame(t *testing.T) {
	again := 0
	for seed := range int64(150) {
		r := rand.New(rand.NewSource(seed))
		p := sample.Program(r)
		shown, told := map[string]string{}, map[string]string{}
		for range 60 {
			w := drift(r, p, r.Intn(10))
			numbers := fmt.Sprint(snap.World(w, len(p.Chans), p.Locks))
			show := fmt.Sprintf("%+v %t", look(w, len(p.Chans), p.Locks), w.Stuck())
			if other, ok := shown[numbers]; ok && other != show {
				t.Fatalf("seed %d: %s\nand %s:\n%s", seed, show, other, numbers)
			} else if ok {
				again++
			}
			if other, ok := told[show]; ok && other != numbers {
				t.Fatalf("seed %d: %s\nand %s:\n%s", seed, numbers, other, show)
			}
			shown[numbers], told[show] = show, numbers
		}
	}
	if again < 1000 {
		t.Errorf("the same numbers: %d times", again)
	}
}
