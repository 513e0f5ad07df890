package salvage_test

import (
	"slices"
	"testing"

	"shunter/api"
	"shunter/asm"
	"shunter/code"
	"shunter/record"
	"shunter/sched"
	"shunter/segment"
	"shunter/snap"
	"shunter/source"
	"shunter/store"
	"shunter/taper"
)

func pick(n uint64) record.Record   { return record.Record{Kind: record.Pick, N: n} }
func victim(n uint64) record.Record { return record.Record{Kind: record.Victim, N: n} }
func which(n uint64) record.Record  { return record.Record{Kind: record.Case, N: n} }
func number(n uint64) record.Record { return record.Record{Kind: record.Rand, N: n} }

// picks are so many of the same.
func picks(n uint64, times int) []record.Record {
	return slices.Repeat([]record.Record{pick(n)}, times)
}

// numbers are those by which an oracle draws these decisions.
func numbers(l []record.Record) []uint64 {
	var all []uint64
	for _, r := range l {
		all = append(all, r.N)
	}
	return all
}

// program is a text's.
func program(t *testing.T, text string) code.Program {
	t.Helper()
	p, line, err := asm.Parse(text)
	if err != api.OK {
		t.Fatalf("%q: line %d, error %d", text, line, err)
	}
	return p
}

var (
	one = sched.Config{P: 1, M: 1, Ring: 2, Slice: 9}
	two = sched.Config{P: 2, M: 2, Ring: 4, Slice: 9}
)

// tour is a run with each kind of draw: its draws, below which number each is, the step of each.
func tour(t *testing.T) (p code.Program, draws []record.Record, below, steps []int) {
	t.Helper()
	p = program(t, "chan 9\nchan 9\nlocks 1\nsend 0 1\nsend 1 1\nfunc\nspawn 1 0 2\nselect 0 2 2\nrand 1 7\njump 1\nfunc\nrand 1 5\nemit 1\nsend 0 1\njump 0")
	draws = slices.Concat(picks(1, 3), []record.Record{pick(0), pick(0), victim(0), pick(1), which(1), pick(0), number(4), pick(1), number(6), pick(2), pick(0), pick(1), pick(1), which(0)})
	below = []int{3, 3, 3, 3, 3, 2, 3, 2, 3, 5, 3, 7, 3, 3, 3, 3, 2}
	steps = []int{0, 1, 2, 3, 4, 4, 5, 5, 6, 6, 7, 7, 8, 9, 10, 11, 11}
	return p, draws, below, steps
}

// told is what the tour has told behind so many steps.
func told(steps int) []int64 {
	if steps > 9 {
		return []int64{4}
	}
	return nil
}

// toured is what the first so many of the tour's decisions come to, at most so many steps.
func toured(t *testing.T, many, most int) taper.Result {
	t.Helper()
	p, l, _, steps := tour(t)
	x := taper.Result{Status: taper.Exhausted, Steps: 12}
	if many < len(l) {
		x.Steps = steps[many]
	}
	if most <= x.Steps {
		x.Status, x.Steps = taper.Limit, max(most, 0)
	}
	x.Out, x.Sums = told(x.Steps), sums(p, two, l, x.Steps)
	return x
}

// sums are those of the states behind the first steps of a scheduler by these decisions.
func sums(p code.Program, c sched.Config, l []record.Record, steps int) []uint32 {
	s := sched.New(p, c, source.Tape(l))
	var all []uint32
	for range steps {
		s.Step()
		all = append(all, snap.Digest(snap.All(s, len(p.Chans), p.Locks)))
	}
	return all
}

// framed is segments of these bodies, from a number on.
func framed(from int, bodies ...string) (log string) {
	for seq, body := range bodies {
		text, _ := segment.Frame(uint64(from+seq), body)
		log += text
	}
	return log
}

// logOf is decisions in segments, from a number on, so many in each.
func logOf(from int, l []record.Record, size int) string {
	var bodies []string
	for some := range slices.Chunk(l, size) {
		bodies = append(bodies, record.Bytes(some...))
	}
	return framed(from, bodies...)
}

// readable is what a text's decisions are, by the words of layer 6's chapter: these, the byte behind, how many segments.
func readable(text string) (l []record.Record, end, segments int) {
	for {
		seq, body, behind, err := segment.Open(text, end)
		if err != api.OK || seq != uint64(segments) {
			return l, end, segments
		}
		some, at := record.All(body)
		if at != len(body) {
			return l, end, segments
		}
		l, end, segments = append(l, some...), behind, segments+1
	}
}

// kept is a store with these bytes, that are safe, and room for many more.
func kept(text string) *store.Store {
	s := store.New(1 << 20)
	s.Append(text)
	s.Sync()
	return s
}

// stands holds what a store has against what it must have, of which all is safe.
func stands(t *testing.T, name string, s *store.Store, text string) {
	t.Helper()
	if s.Bytes() != text || s.Len() != len(text) || s.Safe() != len(text) {
		t.Fatalf("%s: the store has %q\nnot %q; %d bytes are safe", name, s.Bytes(), text, s.Safe())
	}
}

// tells holds a result against what it must be.
func tells(t *testing.T, name string, got, want taper.Result) {
	t.Helper()
	if !alike(got, want) {
		t.Fatalf("%s: %+v\nnot %+v", name, got, want)
	}
}

// alike: is one as the other one, in all that it tells?
func alike(a, b taper.Result) bool {
	same := a.Status == b.Status && a.Steps == b.Steps && a.Trap == b.Trap && a.Err == b.Err && a.Where == b.Where
	return same && slices.Equal(a.Out, b.Out) && slices.Equal(a.Sums, b.Sums)
}

// runs is what a run by these decisions, and then these numbers, comes to, by the words of layer 21's chapter, and what it draws.
func runs(p code.Program, c sched.Config, l []record.Record, numbers []uint64, most int) (x taper.Result, drawn []record.Record) {
	draws := source.Chain(l, numbers)
	s := sched.New(p, c, draws)
	end := source.Well
	for n := 0; n < most && end == source.Well && s.Status() == sched.Going; n++ {
		end, x.Where = source.Guard(func() { s.Step() })
		if end == source.Well {
			x.Sums = append(x.Sums, snap.Digest(snap.All(s, len(p.Chans), p.Locks)))
		}
	}
	x.Steps, x.Out = s.Steps(), s.World().Out()
	x.Status = []int{taper.Limit, taper.Halted, taper.Trapped, taper.Deadlock}[s.Status()]
	if end != source.Well {
		x.Status = []int{0, taper.Exhausted, taper.Strayed}[end]
	}
	_, x.Trap = s.World().End()
	return x, draws.Taken()
}
