package source_test

import (
	"math"
	"math/rand"
	"slices"
	"testing"

	"shunter/record"
	"shunter/source"
)

// model is a source by the chapter's words, in plain lists: what is left of its decisions, and of its numbers.
type model struct {
	tape    []record.Record
	numbers []uint64
	taken   []record.Record
	seen    []record.Record
	watched bool
}

// draw answers the draw, or what it panics with.
func (m *model) draw(kind, n int) (int, any) {
	if n < 1 {
		n = 1
	}
	var r record.Record
	if len(m.tape) > 0 {
		r = m.tape[0]
		if fits := r.Kind == kind && r.N <= math.MaxInt && int(r.N) < n; !fits {
			return 0, source.Unlike{At: len(m.taken), Kind: kind, N: n, Got: r}
		}
		m.tape = m.tape[1:]
	} else if len(m.numbers) > 0 {
		r = record.Record{Kind: kind, N: m.numbers[0] - m.numbers[0]/uint64(n)*uint64(n)}
		m.numbers = m.numbers[1:]
	} else {
		return 0, source.Dry{}
	}
	m.taken = append(m.taken, r)
	if m.watched {
		m.seen = append(m.seen, r)
	}
	return int(r.N), nil
}

// agrees: does a source show what the model has?
func (m *model) agrees(s *source.Source, e *eye) bool {
	return s.Left() == len(m.tape)+len(m.numbers) && slices.Equal(s.Taken(), m.taken) && slices.Equal(e.seen, m.seen)
}

var bounds = []int{math.MinInt, -1, 0, 1, 1, 2, 2, 3, 3, 4, 5, 100, 1 << 31, 1 << 32, 1<<40 - 1, 1 << 40}

func drawnNumbers(r *rand.Rand) []uint64 {
	var l []uint64
	for range r.Intn(12) {
		l = append(l, r.Uint64()>>r.Intn(64))
	}
	return l
}

func drawnTape(r *rand.Rand) []record.Record {
	var l []record.Record
	for range r.Intn(12) {
		l = append(l, record.Record{Kind: 1 + r.Intn(2), N: r.Uint64() >> (58 + r.Intn(7))})
	}
	if len(l) > 0 && r.Intn(4) == 0 {
		l[r.Intn(len(l))] = record.Record{Kind: r.Intn(6), N: r.Uint64() >> r.Intn(64)}
	}
	return l
}

// drawnSource is a source of one of the three calls, and a model of it.
func drawnSource(r *rand.Rand) (*source.Source, *model) {
	l, numbers := drawnTape(r), drawnNumbers(r)
	switch r.Intn(3) {
	case 0:
		return source.Oracle(numbers), &model{numbers: numbers}
	case 1:
		return source.Tape(l), &model{tape: l}
	default:
		return source.Chain(l, numbers), &model{tape: l, numbers: numbers}
	}
}

// ask is a draw that fits what stands there more often than not.
func (m *model) ask(r *rand.Rand) (int, int) {
	kind, n := 1+r.Intn(4), bounds[r.Intn(len(bounds))]
	if len(m.tape) > 0 && r.Intn(3) > 0 && m.tape[0].Check() == 0 && m.tape[0].N < 1<<40 {
		return m.tape[0].Kind, int(m.tape[0].N) + 1 + r.Intn(2)
	}
	return kind, n
}

// P17.1: behind any calls each call is by the chapter's words.
func TestAgainstAModel(t *testing.T) {
	r := rand.New(rand.NewSource(17))
	for i := range 20000 {
		s, m := drawnSource(r)
		e := &eye{}
		for at := range 40 {
			if r.Intn(8) == 0 {
				m.watched = !m.watched
				s.Watch(map[bool]func(record.Record){true: e.see, false: nil}[m.watched])
			}
			kind, n := m.ask(r)
			want, wantPanic := m.draw(kind, n)
			got := 0
			if x := caught(func() { got = s.Draw(kind, n) }); got != want || x != wantPanic || !m.agrees(s, e) {
				t.Fatalf("source %d, draw %d (%d, %d): %d, %#v, not %d, %#v", i, at, kind, n, got, x, want, wantPanic)
			}
		}
	}
}

// asked is a draw that was made: what was asked, what was answered.
type asked struct{ kind, n, got int }

// again makes the same draws of another source.
func again(t *testing.T, s *source.Source, l []asked) {
	t.Helper()
	taken := s.Taken()
	for _, a := range l {
		draws(t, s, a.kind, a.n, a.got)
		taken = append(taken, record.Record{Kind: a.kind, N: uint64(a.got)})
	}
	shows(t, s, 0, taken...)
}

// P17.2: whatever was drawn, of whichever source, with whatever draws between that panicked, a tape of it answers the same draws; so does a tape of what that tape took.
func TestATapeOfTakenAnswersTheSame(t *testing.T) {
	r := rand.New(rand.NewSource(172))
	most := 0
	for range 3000 {
		s, m := drawnSource(r)
		var l []asked
		for range 30 {
			kind, n := m.ask(r)
			m.draw(kind, n)
			if end, _ := source.Guard(func() { l = append(l, asked{kind, n, s.Draw(kind, n)}) }); end == source.Spent {
				break
			}
		}
		most = max(most, len(l))
		tape := source.Tape(s.Taken())
		again(t, tape, l)
		dry(t, tape)
		again(t, source.Tape(tape.Taken()), l)
		again(t, source.Chain(s.Taken(), nil), l)
		again(t, source.Tape(s.Taken()[:len(l)/2]), l[:len(l)/2])
	}
	if most < 20 {
		t.Errorf("at most %d were drawn", most)
	}
}

// P17.2: the edges: numbers that reach as far as a draw can, and n that count as 1.
func TestATapeOfTakenAtTheEdges(t *testing.T) {
	var numbers []uint64
	for i := range 64 {
		numbers = append(numbers, 1<<i, 1<<i-1, math.MaxUint64-1<<i)
	}
	s := source.Oracle(numbers)
	var l []asked
	for i := range numbers {
		kind, n := 1+i%4, bounds[i%len(bounds)]
		l = append(l, asked{kind, n, s.Draw(kind, n)})
	}
	for _, r := range s.Taken() {
		if r.Check() != 0 {
			t.Errorf("%v may not be", r)
		}
	}
	again(t, source.Tape(s.Taken()), l)
}

// K4: what a source answers hangs on its calls alone.
func TestTheSameCallsTheSameAnswers(t *testing.T) {
	for i := range int64(200) {
		a, _ := drawnSource(rand.New(rand.NewSource(i)))
		b, _ := drawnSource(rand.New(rand.NewSource(i)))
		r := rand.New(rand.NewSource(i))
		for range 30 {
			kind, n := 1+r.Intn(4), bounds[r.Intn(len(bounds))]
			x := caught(func() { a.Draw(kind, n) })
			if y := caught(func() { b.Draw(kind, n) }); x != y || a.Left() != b.Left() || !slices.Equal(a.Taken(), b.Taken()) {
				t.Fatalf("source %d: %v, %v", i, x, y)
			}
		}
	}
}
