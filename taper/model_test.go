package taper_test

import (
	"fmt"
	"slices"
	"testing"

	"shunter/api"
	"shunter/asm"
	"shunter/code"
	"shunter/logbook"
	"shunter/record"
	"shunter/sched"
	"shunter/snap"
	"shunter/source"
	"shunter/store"
	"shunter/taper"
)

func pick(n uint64) record.Record   { return record.Record{Kind: record.Pick, N: n} }
func victim(n uint64) record.Record { return record.Record{Kind: record.Victim, N: n} }
func which(n uint64) record.Record  { return record.Record{Kind: record.Case, N: n} }
func number(n uint64) record.Record { return record.Record{Kind: record.Rand, N: n} }

// picks are so many of the same.
func picks(n uint64, times int) []record.Record {
	return slices.Repeat([]record.Record{pick(n)}, times)
}

// numbers are those by which an oracle draws these decisions.
func numbers(l []record.Record) []uint64 {
	var all []uint64
	for _, r := range l {
		all = append(all, r.N)
	}
	return all
}

// program is a text's.
func program(t *testing.T, text string) code.Program {
	t.Helper()
	p, line, err := asm.Parse(text)
	if err != api.OK {
		t.Fatalf("%q: line %d, error %d", text, line, err)
	}
	return p
}

var (
	one = sched.Config{P: 1, M: 1, Ring: 2, Slice: 9}
	two = sched.Config{P: 2, M: 2, Ring: 4, Slice: 9}
)

// opened is a book, and its store, which was empty.
func opened(room, size int) (*logbook.Book, *store.Store) {
	s := store.New(room)
	b, _, _ := logbook.Open(s, size)
	return b, s
}

// has: the decisions of a store's log, which goes to its end.
func has(t *testing.T, name string, s *store.Store, want []record.Record) {
	t.Helper()
	l, end, _ := logbook.Read(s.Bytes())
	if !slices.Equal(l, want) || end != s.Len() || s.Safe() != s.Len() {
		t.Errorf("%s: the log has %v, not %v; it ends at %d of %d bytes, %d are safe", name, l, want, end, s.Len(), s.Safe())
	}
}

// sums are those of the states behind the first steps of a scheduler by these decisions.
func sums(t *testing.T, p code.Program, c sched.Config, l []record.Record, steps int) []uint32 {
	t.Helper()
	s := sched.New(p, c, source.Tape(l))
	var all []uint32
	for range steps {
		if x := caught(func() { s.Step() }); x != nil {
			t.Fatalf("step %d: %v", s.Steps(), x)
		}
		all = append(all, snap.Digest(snap.All(s, len(p.Chans), p.Locks)))
	}
	return all
}

// tells holds a result against what it must be.
func tells(t *testing.T, name string, got, want taper.Result) {
	t.Helper()
	if !alike(got, want) {
		t.Fatalf("%s: %+v\nnot %+v", name, got, want)
	}
}

// alike: is one as the other one, in all that it tells?
func alike(a, b taper.Result) bool {
	same := a.Status == b.Status && a.Steps == b.Steps && a.Trap == b.Trap && a.Err == b.Err && a.Where == b.Where
	return same && slices.Equal(a.Out, b.Out) && slices.Equal(a.Sums, b.Sums)
}

// caught is what run panicked with; nil: with nothing.
func caught(run func()) (x any) {
	defer func() { x = recover() }()
	run()
	return nil
}

// model is a runner by the chapter's words.
type model struct {
	p      code.Program
	s      *sched.Sched
	draws  *source.Source
	booked int // so many of the draws are done with
	sums   []uint32
}

func newModel(p code.Program, c sched.Config, draws *source.Source, booked int) *model {
	return &model{p: p, s: sched.New(p, c, draws), draws: draws, booked: booked}
}

// run is what Run should tell, and do with a book.
func (m *model) run(most int, b *logbook.Book) (x taper.Result) {
	defer func() {
		x.Steps, x.Out, x.Sums = m.s.Steps(), m.s.World().Out(), slices.Clone(m.sums)
	}()
	broken := func(err api.Errno) bool {
		if err != 0 {
			x = taper.Result{Status: 6, Err: err}
		}
		return err != 0
	}
	for n := 0; x.Status == 0; n++ {
		if x.Status = m.s.Status(); x.Status != 0 {
			_, x.Trap = m.s.World().End()
			break
		}
		if n >= most {
			x.Status = 5
			break
		}
		switch e := caught(func() { m.s.Step() }).(type) {
		case nil:
			m.sums = append(m.sums, snap.Digest(snap.All(m.s, len(m.p.Chans), m.p.Locks)))
		case source.Dry:
			x.Status = 4
		case source.Unlike:
			x.Status, x.Where = 8, e
		default:
			panic(e)
		}
		for _, r := range m.draws.Taken()[min(m.booked, len(m.draws.Taken())):] {
			m.booked++
			if b != nil && broken(b.Add(r)) {
				return x
			}
		}
	}
	if b != nil && x.Status != 8 {
		broken(b.Flush())
	}
	return x
}

// way is a runner of just the same draws as others, some of which may be in a book already.
type way struct {
	name   string
	runner *taper.Runner
	there  int
}

// ways are runners that draw these decisions: a tape's, an oracle's, a chain's, and, behind each number of the first ones, one that goes on.
func ways(p code.Program, c sched.Config, l []record.Record) []way {
	half := len(l) / 2
	all := []way{
		{"tape", taper.Start(p, c, source.Tape(l)), 0},
		{"oracle", taper.Start(p, c, source.Oracle(numbers(l))), 0},
		{"chain", taper.Start(p, c, source.Chain(l[:half], numbers(l[half:]))), 0},
	}
	for n := range len(l) + 1 {
		all = append(all, way{fmt.Sprint("gone on behind ", n), taper.Resume(p, c, l[:n], numbers(l[n:])), n})
	}
	return all
}

// goes holds what each of the ways, and Record, come to against what they must: sums aside, which are those of as many steps; so many decisions are taken.
func goes(t *testing.T, name, text string, c sched.Config, l []record.Record, most int, want taper.Result, taken int) {
	t.Helper()
	p := program(t, text)
	want.Sums = sums(t, p, c, l, want.Steps)
	for _, size := range []int{1, 2, 3, 7, 400} {
		for _, w := range ways(p, c, l) {
			b, s := opened(10000, size)
			at := fmt.Sprintf("%s, %s, %d a segment", name, w.name, size)
			tells(t, at, w.runner.Run(most, b), want)
			has(t, at, s, l[min(w.there, taken):taken])
			if b.Waiting() != 0 || b.Sure() != taken-min(w.there, taken) {
				t.Errorf("%s: %d wait, %d are sure", at, b.Waiting(), b.Sure())
			}
		}
		b, s := opened(10000, size)
		tells(t, name+", recorded", taper.Record(p, c, numbers(l), most, b), want)
		has(t, name+", recorded", s, l[:taken])
	}
	for _, w := range ways(p, c, l) {
		tells(t, name+", without a book, "+w.name, w.runner.Run(most, nil), want)
	}
	tells(t, name+", recorded without a book", taper.Record(p, c, numbers(l), most, nil), want)
}
