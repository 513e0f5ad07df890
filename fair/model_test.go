package fair_test

import (
	"fmt"
	"reflect"
	"slices"
	"testing"

	"shunter/api"
	"shunter/asm"
	"shunter/code"
	"shunter/fair"
	"shunter/record"
	"shunter/sched"
	"shunter/source"
	"shunter/world"
)

// program is a text's.
func program(t *testing.T, text string) code.Program {
	t.Helper()
	p, line, err := asm.Parse(text)
	if err != api.OK {
		t.Fatalf("%q: line %d, error %d", text, line, err)
	}
	return p
}

// lived is a run, as it is seen from without: how each goroutine is behind each step (a place that isn't there: it isn't, either), and who did an instruction by it (-1: nobody).
type lived struct {
	status [][]int
	ran    []int
	many   int // goroutines, at the end
	drawn  []record.Record
	seen   map[string]int // what happened how often
}

// live makes the run of an oracle's numbers, at most so many steps.
func live(p code.Program, c sched.Config, numbers []uint64, most int) lived {
	draws := source.Oracle(numbers)
	s := sched.New(p, c, draws)
	x := lived{seen: map[string]int{}}
	for len(x.ran) < most && s.Status() == sched.Going {
		row := len(s.Global())
		var e sched.Event
		if end, _ := source.Guard(func() { e = s.Step() }); end != source.Well {
			x.seen["dry"]++
			break
		}
		x.saw(s, e, row)
	}
	x.seen[map[int]string{sched.Going: "going", sched.Halted: "halted", sched.Trapped: "trapped", sched.Deadlock: "deadlock"}[s.Status()]]++
	x.many, x.drawn = s.World().Len(), draws.Taken()
	return x
}

// saw is what a step came to; ahead of it so many stood in the global row.
func (x *lived) saw(s *sched.Sched, e sched.Event, row int) {
	var status []int
	for g := range s.World().Len() {
		status = append(status, s.World().Status(g))
	}
	x.status = append(x.status, status)
	ran := -1
	if e.Kind == sched.Ran {
		ran = e.G
	}
	x.ran = append(x.ran, ran)
	came := len(s.Global()) - row
	switch {
	case e.Kind == sched.Stole:
		x.seen["stolen"]++
	case e.Kind == sched.Ticked && came > 0:
		x.seen["woken by the clock"]++
	case e.Kind == sched.Ran && came > 1, e.Kind == sched.Found && came >= 0 && row > 0:
		x.seen["ran over the ring"]++
	case e.Kind == sched.Ran && came == 1:
		x.seen["came into the global row"]++
	}
}

// is: how a goroutine is behind a step; 0: there is none.
func (x lived) is(g, step int) int {
	switch {
	case step < 0 && g == 0:
		return world.Ready
	case step < 0 || g >= len(x.status[step]):
		return 0
	}
	return x.status[step][g]
}

// waits: the longest of a goroutine's, by the chapter's words.
func (x lived) waits(g int) int {
	longest := 0
	for from := -1; from < len(x.ran); from++ {
		begins := g == 0
		if from >= 0 {
			begins = x.ran[from] == g || x.is(g, from-1) != world.Ready
		}
		if x.is(g, from) != world.Ready || !begins {
			continue
		}
		to := len(x.ran) - 1
		if next := slices.Index(x.ran[from+1:], g); next >= 0 {
			to = from + 1 + next
		}
		longest = max(longest, to-from)
	}
	return longest
}

// stretch is a window, by where each machine was picked.
func stretch(l []record.Record, machines int) int {
	var row []uint64
	for _, r := range l {
		if r.Kind == record.Pick {
			row = append(row, r.N)
		}
	}
	longest := 0
	for m := range machines {
		if !slices.Contains(row, uint64(m)) {
			return 0
		}
		without := 0
		for _, n := range row {
			without++
			if n == uint64(m) {
				without = 0
			}
			longest = max(longest, without+1)
		}
	}
	return longest
}

// report is what Watch should answer.
func (x lived) report(machines int) fair.Report {
	r := fair.Report{Steps: len(x.ran), Goroutines: x.many, Window: stretch(x.drawn, machines)}
	for g := range x.many {
		r.Longest = max(r.Longest, x.waits(g))
	}
	return r
}

// watches holds Watch against what it should answer, twice, and what it is handed against what that was.
func watches(t *testing.T, name string, p code.Program, c sched.Config, numbers []uint64, most int, want fair.Report) {
	t.Helper()
	kept := slices.Clone(numbers)
	text := fmt.Sprint(p)
	for range 2 {
		if got := fair.Watch(p, c, numbers, most); got != want {
			t.Errorf("%s, at most %d: %+v, not %+v", name, most, got, want)
		}
	}
	if !slices.Equal(numbers, kept) || fmt.Sprint(p) != text {
		t.Errorf("%s: what was handed in became another one", name)
	}
}

// K5: a report has just these fields, and can be compared.
func TestReport(t *testing.T) {
	if n := reflect.TypeFor[fair.Report]().NumField(); n != 4 || (fair.Report{}) != (fair.Report{Steps: 0, Goroutines: 0, Window: 0, Longest: 0}) {
		t.Errorf("%d fields", n)
	}
}
