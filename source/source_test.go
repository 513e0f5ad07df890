package source_test

import (
	"math"
	"slices"
	"testing"

	"shunter/record"
	"shunter/source"
)

func pick(n uint64) record.Record   { return record.Record{Kind: record.Pick, N: n} }
func victim(n uint64) record.Record { return record.Record{Kind: record.Victim, N: n} }
func which(n uint64) record.Record  { return record.Record{Kind: record.Case, N: n} }
func number(n uint64) record.Record { return record.Record{Kind: record.Rand, N: n} }

// caught is what run panicked with; nil: with nothing.
func caught(run func()) (x any) {
	defer func() { x = recover() }()
	run()
	return nil
}

// shows holds what a source shows against what it must.
func shows(t *testing.T, s *source.Source, left int, taken ...record.Record) {
	t.Helper()
	if s.Left() != left || !slices.Equal(s.Taken(), taken) {
		t.Errorf("%d are left, %v were taken, not %d, %v", s.Left(), s.Taken(), left, taken)
	}
}

// draws draws one that there is: one is left less, and it is taken.
func draws(t *testing.T, s *source.Source, kind, n, want int) {
	t.Helper()
	left, taken := s.Left(), s.Taken()
	got := -1
	if x := caught(func() { got = s.Draw(kind, n) }); x != nil || got != want {
		t.Fatalf("Draw(%d, %d): %d, panic %v, not %d", kind, n, got, x, want)
	}
	shows(t, s, left-1, append(taken, record.Record{Kind: kind, N: uint64(want)})...)
}

// panics makes a draw that must panic with just that: it changes nothing.
func panics(t *testing.T, s *source.Source, kind, n int, want any) {
	t.Helper()
	left, taken := s.Left(), s.Taken()
	if x := caught(func() { s.Draw(kind, n) }); x != want {
		t.Errorf("Draw(%d, %d): panic %#v, not %#v", kind, n, x, want)
	}
	shows(t, s, left, taken...)
}

// dry: whatever is asked, as often as one likes, there is no draw.
func dry(t *testing.T, s *source.Source) {
	t.Helper()
	for _, n := range []int{5, 1, 0, -1, math.MinInt, 1 << 40} {
		for kind := record.Pick; kind <= record.Rand; kind++ {
			panics(t, s, kind, n, source.Dry{})
		}
	}
	if s.Left() != 0 {
		t.Errorf("%d are left", s.Left())
	}
}

// P17.1: the document's example.
func TestExample(t *testing.T) {
	s := source.Oracle([]uint64{7, 9})
	draws(t, s, record.Pick, 5, 2)
	draws(t, s, record.Rand, 3, 0)
	dry(t, s)
	shows(t, s, 0, pick(2), number(0))
}

// P17.1
func TestOracle(t *testing.T) {
	cases := []struct {
		number     uint64
		kind, n    int
		want, last int // last: with the greatest number there is
	}{
		{17, record.Rand, 10, 7, 5},
		{0, record.Pick, 10, 0, 5},
		{9, record.Victim, 10, 9, 5},
		{10, record.Case, 10, 0, 5},
		{11, record.Pick, 12, 11, 3},
		{math.MaxUint64, record.Victim, 2, 1, 1},
		{1<<63 - 1, record.Case, 3, 1, 0},
		{1 << 63, record.Rand, 3, 2, 0},
		{1<<63 + 1, record.Pick, 3, 0, 0},
		{1<<63 + 5, record.Pick, 1 << 40, 5, 1<<40 - 1},
		{1<<63 + 1<<40 - 1, record.Rand, 1 << 40, 1<<40 - 1, 1<<40 - 1},
		{1<<40 - 1, record.Rand, 1<<40 - 1, 0, 1<<24 - 1},
		{1 << 40, record.Victim, 1 << 40, 0, 1<<40 - 1},
		{math.MaxUint64, record.Case, 1, 0, 0},
		{8, record.Case, 0, 0, 0},
		{math.MaxUint64, record.Rand, -1, 0, 0},
		{1<<63 + 7, record.Pick, -5, 0, 0},
		{9, record.Victim, math.MinInt, 0, 0},
	}
	var numbers, greatest []uint64
	for _, c := range cases {
		numbers, greatest = append(numbers, c.number), append(greatest, math.MaxUint64)
	}
	s, g := source.Oracle(numbers), source.Oracle(greatest)
	shows(t, s, len(cases))
	for _, c := range cases {
		draws(t, s, c.kind, c.n, c.want)
		draws(t, g, c.kind, c.n, c.last)
	}
	dry(t, s)
	dry(t, g)
}

// P17.1
func TestTape(t *testing.T) {
	l := []record.Record{pick(0), victim(4), which(0), number(1<<40 - 1), pick(0), pick(0), number(0), which(31)}
	s := source.Tape(l)
	shows(t, s, len(l))
	draws(t, s, record.Pick, 1, 0)
	draws(t, s, record.Victim, 5, 4)
	draws(t, s, record.Case, 100, 0)
	draws(t, s, record.Rand, 1<<40, 1<<40-1)
	draws(t, s, record.Pick, 0, 0)
	draws(t, s, record.Pick, -7, 0)
	draws(t, s, record.Rand, math.MinInt, 0)
	draws(t, s, record.Case, 32, 31)
	dry(t, s)
	shows(t, s, 0, l...)
}

// astray are draws that a decision isn't, with n as it counts.
var astray = []struct {
	got           record.Record
	kind, n, asks int
}{
	{pick(0), record.Victim, 5, 5},
	{pick(0), record.Case, 5, 5},
	{pick(0), record.Rand, 5, 5},
	{victim(4), record.Pick, 5, 5},
	{number(0), record.Pick, 1 << 40, 1 << 40},
	{which(1), record.Rand, 0, 1}, // neither the kind nor below n
	{which(0), record.Rand, 0, 1},
	{which(0), record.Rand, math.MinInt, 1},
	{pick(5), record.Pick, 5, 5},
	{pick(6), record.Pick, 5, 5},
	{victim(1), record.Victim, 1, 1},
	{which(1), record.Case, 0, 1},
	{number(1), record.Rand, -1, 1},
	{number(1), record.Rand, math.MinInt, 1},
	{number(7), record.Rand, -8, 1},
	{number(1 << 40), record.Rand, 1 << 40, 1 << 40},
	{number(1 << 32), record.Rand, 1, 1},
	{pick(1<<32 + 3), record.Pick, 5, 5},
	{pick(record.MostN), record.Pick, 1 << 40, 1 << 40},
	{pick(1<<63 - 1), record.Pick, 1 << 40, 1 << 40},
	{pick(1 << 63), record.Pick, 1 << 40, 1 << 40}, // an int of these is below 0
	{victim(1<<63 + 1), record.Victim, 5, 5},
	{number(math.MaxUint64), record.Rand, 1, 1},
	{number(math.MaxUint64), record.Rand, 0, 1},
	{record.Record{Kind: 0, N: 0}, record.Pick, 5, 5}, // decisions that may not be
	{record.Record{Kind: 5, N: 0}, record.Rand, 5, 5},
	{record.Record{Kind: -1, N: 0}, record.Pick, 5, 5},
	{record.Record{Kind: math.MaxInt, N: math.MaxUint64}, record.Rand, 5, 5},
}

// P17.1: a decision that strays isn't taken, whichever it is of a tape, or of a chain.
func TestAnotherDecisionStandsThere(t *testing.T) {
	for _, c := range astray {
		for at := range 4 {
			l := append(slices.Repeat([]record.Record{victim(3)}, at), c.got, pick(1))
			for _, s := range []*source.Source{source.Tape(l), source.Chain(l, []uint64{0, 0})} {
				for range at {
					draws(t, s, record.Victim, 4, 3)
				}
				for range 3 {
					panics(t, s, c.kind, c.n, source.Unlike{At: at, Kind: c.kind, N: c.asks, Got: c.got})
				}
			}
		}
	}
}

// P17.1: what strayed is still there, for a draw that fits.
func TestADrawThatFitsTakesWhatStrayed(t *testing.T) {
	for _, c := range astray {
		kinds := c.got.Kind >= record.Pick && c.got.Kind <= record.Rand
		if !kinds || c.got.N >= 1<<40 {
			continue
		}
		l := []record.Record{pick(0), c.got, which(2)}
		for _, s := range []*source.Source{source.Tape(l), source.Chain(l, []uint64{9})} {
			draws(t, s, record.Pick, 1, 0)
			panics(t, s, c.kind, c.n, source.Unlike{At: 1, Kind: c.kind, N: c.asks, Got: c.got})
			draws(t, s, c.got.Kind, int(c.got.N)+1, int(c.got.N))
			panics(t, s, record.Case, 2, source.Unlike{At: 2, Kind: record.Case, N: 2, Got: which(2)})
			draws(t, s, record.Case, 3, 2)
		}
	}
}

// P17.1
func TestChain(t *testing.T) {
	s := source.Chain([]record.Record{pick(3), number(9)}, []uint64{13, 1<<63 + 1, 6})
	shows(t, s, 5)
	draws(t, s, record.Pick, 4, 3)
	draws(t, s, record.Rand, 10, 9)
	draws(t, s, record.Rand, 10, 3) // the first of the numbers
	draws(t, s, record.Case, -1, 0)
	draws(t, s, record.Victim, 4, 2)
	dry(t, s)
	shows(t, s, 0, pick(3), number(9), number(3), which(0), victim(2))
}

// P17.1: as long as a decision stands there, no number is drawn.
func TestADecisionThatStraysKeepsTheNumbers(t *testing.T) {
	s := source.Chain([]record.Record{pick(0), pick(7)}, []uint64{4, 5})
	draws(t, s, record.Pick, 4, 0)
	for kind := record.Victim; kind <= record.Rand; kind++ {
		panics(t, s, kind, 9, source.Unlike{At: 1, Kind: kind, N: 9, Got: pick(7)})
	}
	panics(t, s, record.Pick, 7, source.Unlike{At: 1, Kind: record.Pick, N: 7, Got: pick(7)})
	shows(t, s, 3, pick(0))
	draws(t, s, record.Pick, 8, 7)
	draws(t, s, record.Rand, 9, 4)
	draws(t, s, record.Rand, 9, 5)
	dry(t, s)
}

// P17.1
func TestChainOfOneSideAlone(t *testing.T) {
	numbers := source.Chain(nil, []uint64{12, 5})
	draws(t, numbers, record.Case, 10, 2)
	draws(t, numbers, record.Pick, 10, 5)
	dry(t, numbers)
	tape := source.Chain([]record.Record{pick(2), victim(1)}, nil)
	draws(t, tape, record.Pick, 3, 2)
	panics(t, tape, record.Pick, 3, source.Unlike{At: 1, Kind: record.Pick, N: 3, Got: victim(1)})
	draws(t, tape, record.Victim, 2, 1)
	dry(t, tape)
}

// P17.1, K1: of nothing, whichever nothing it is; also of a source that nobody made.
func TestEmpty(t *testing.T) {
	for _, s := range []*source.Source{
		source.Oracle(nil), source.Oracle([]uint64{}),
		source.Tape(nil), source.Tape([]record.Record{}),
		source.Chain(nil, nil), source.Chain([]record.Record{}, []uint64{}),
		new(source.Source),
	} {
		shows(t, s, 0)
		dry(t, s)
		s.Watch(func(record.Record) { t.Error("a draw was seen") })
		dry(t, s)
		shows(t, s, 0)
	}
}
