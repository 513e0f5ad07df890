package replay_test

import (
	"slices"
	"testing"

	"shunter/api"
	"shunter/asm"
	"shunter/code"
	"shunter/logbook"
	"shunter/record"
	"shunter/sched"
	"shunter/segment"
	"shunter/snap"
	"shunter/source"
	"shunter/store"
	"shunter/taper"
)

func pick(n uint64) record.Record   { return record.Record{Kind: record.Pick, N: n} }
func victim(n uint64) record.Record { return record.Record{Kind: record.Victim, N: n} }
func which(n uint64) record.Record  { return record.Record{Kind: record.Case, N: n} }
func number(n uint64) record.Record { return record.Record{Kind: record.Rand, N: n} }

// picks are so many of the same.
func picks(n uint64, times int) []record.Record {
	return slices.Repeat([]record.Record{pick(n)}, times)
}

// program is a text's.
func program(t *testing.T, text string) code.Program {
	t.Helper()
	p, line, err := asm.Parse(text)
	if err != api.OK {
		t.Fatalf("%q: line %d, error %d", text, line, err)
	}
	return p
}

var (
	one = sched.Config{P: 1, M: 1, Ring: 2, Slice: 9}
	two = sched.Config{P: 2, M: 2, Ring: 4, Slice: 9}
)

// tour is a run with each kind of draw: its draws, below which number each is, the step of each, what is told by the last step but two.
func tour(t *testing.T) (p code.Program, draws []record.Record, below, steps []int) {
	t.Helper()
	p = program(t, "chan 9\nchan 9\nlocks 1\nsend 0 1\nsend 1 1\nfunc\nspawn 1 0 2\nselect 0 2 2\nrand 1 7\njump 1\nfunc\nrand 1 5\nemit 1\nsend 0 1\njump 0")
	draws = slices.Concat(picks(1, 3), []record.Record{pick(0), pick(0), victim(0), pick(1), which(1), pick(0), number(4), pick(1), number(6), pick(2), pick(0), pick(1), pick(1), which(0)})
	below = []int{3, 3, 3, 3, 3, 2, 3, 2, 3, 5, 3, 7, 3, 3, 3, 3, 2}
	steps = []int{0, 1, 2, 3, 4, 4, 5, 5, 6, 6, 7, 7, 8, 9, 10, 11, 11}
	return p, draws, below, steps
}

// told is what the tour has told behind so many steps.
func told(steps int) []int64 {
	if steps > 9 {
		return []int64{4}
	}
	return nil
}

// logOf is a log of decisions, so many a segment.
func logOf(l []record.Record, size int) string {
	s := store.New(1 << 20)
	b, _, _ := logbook.Open(s, size)
	for _, r := range l {
		b.Add(r)
	}
	b.Flush()
	return s.Bytes()
}

// framed is segments of these bodies, numbered from 0 on; and the bytes at which they end.
func framed(bodies ...string) (log string, ends []int) {
	for seq, body := range bodies {
		text, _ := segment.Frame(uint64(seq), body)
		log += text
		ends = append(ends, len(log))
	}
	return log, ends
}

// sums are those of the states behind the first steps of a scheduler by these decisions.
func sums(p code.Program, c sched.Config, l []record.Record, steps int) []uint32 {
	s := sched.New(p, c, source.Tape(l))
	var all []uint32
	for range steps {
		s.Step()
		all = append(all, snap.Digest(snap.All(s, len(p.Chans), p.Locks)))
	}
	return all
}

// tells holds a result against what it must be.
func tells(t *testing.T, name string, got, want taper.Result) {
	t.Helper()
	if !alike(got, want) {
		t.Fatalf("%s: %+v\nnot %+v", name, got, want)
	}
}

// alike: is one as the other one, in all that it tells?
func alike(a, b taper.Result) bool {
	same := a.Status == b.Status && a.Steps == b.Steps && a.Trap == b.Trap && a.Err == b.Err && a.Where == b.Where
	return same && slices.Equal(a.Out, b.Out) && slices.Equal(a.Sums, b.Sums)
}

// malformed is what a Replay of no log tells.
var malformed = taper.Result{Status: taper.Malformed, Err: api.ErrForm}
