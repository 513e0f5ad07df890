package taper_test

import (
	"fmt"
	"math/rand"
	"slices"
	"testing"

	"shunter/code"
	"shunter/logbook"
	"shunter/record"
	"shunter/sample"
	"shunter/sched"
	"shunter/source"
	"shunter/store"
	"shunter/taper"
)

// twins are a runner and a model of just the same draws; how many of these are in a book already.
func twins(r *rand.Rand, p code.Program, c sched.Config) (*taper.Runner, *model) {
	l, n := sample.Decisions(r), sample.Numbers(r, c, 20+r.Intn(300))
	switch r.Intn(4) {
	case 0:
		return taper.Start(p, c, source.Oracle(n)), newModel(p, c, source.Oracle(n), 0)
	case 1:
		return taper.Start(p, c, source.Chain(l, n)), newModel(p, c, source.Chain(l, n), 0)
	case 2:
		l = drawn(r, p, c, n)
		if len(l) > 0 && r.Intn(3) == 0 {
			l[r.Intn(len(l))] = record.Record{Kind: 1 + r.Intn(4), N: uint64(r.Intn(4))}
		}
		return taper.Start(p, c, source.Tape(l)), newModel(p, c, source.Tape(l), 0)
	}
	if r.Intn(2) == 0 {
		l = drawn(r, p, c, n[:r.Intn(len(n))])
	}
	return taper.Resume(p, c, l, n), newModel(p, c, source.Chain(l, n), len(l))
}

// drawn are the decisions of a run by these numbers.
func drawn(r *rand.Rand, p code.Program, c sched.Config, n []uint64) []record.Record {
	m := newModel(p, c, source.Oracle(n), 0)
	m.run(r.Intn(500), nil)
	return m.draws.Taken()
}

// shelf is books of twins: each of one has its twin.
type shelf struct {
	mine, other   []*logbook.Book
	stores, twins []*store.Store
}

// add: one more, of whose store the power may be cut.
func (x *shelf) add(r *rand.Rand) {
	size, room, n := sample.Some(r, 1, 2, 3, 10, 400), sample.Some(r, 30, 300, 100000, 100000, 100000), sample.Some(r, -1, -1, -1, r.Intn(40))
	a, s := opened(room, size)
	b, u := opened(room, size)
	s.Arm(n)
	u.Arm(n)
	x.mine, x.other = append(x.mine, a), append(x.other, b)
	x.stores, x.twins = append(x.stores, s), append(x.twins, u)
}

// same: has each book, and its store, what its twin has?
func (x *shelf) same() bool {
	for i, b := range x.mine {
		s, u := x.stores[i], x.twins[i]
		if b.Sure() != x.other[i].Sure() || b.Waiting() != x.other[i].Waiting() || s.Bytes() != u.Bytes() || s.Safe() != u.Safe() || s.Dead() != u.Dead() {
			return false
		}
	}
	return true
}

// P21.1, P21.2: many programs, configs, draws, books and mosts: a runner tells what it must, and the books have what they must, as often as it is asked.
func TestManyRuns(t *testing.T) {
	seen := map[int]int{}
	for seed := range int64(800) {
		r := rand.New(rand.NewSource(seed))
		p, c := sample.Program(r), sample.Config(r)
		mine, other := twins(r, p, c)
		var books shelf
		for range 6 {
			most := r.Intn(120) - 4
			var b, u *logbook.Book
			if i := r.Intn(4) - 1; i >= 0 {
				for len(books.mine) <= i {
					books.add(r)
				}
				b, u = books.mine[i], books.other[i]
			}
			got, want := mine.Run(most, b), other.run(most, u)
			tells(t, fmt.Sprint("seed ", seed), got, want)
			if !books.same() {
				t.Fatalf("seed %d: the books are others", seed)
			}
			if seen[got.Status]++; got.Status == taper.Broken || got.Status == taper.Strayed {
				break
			}
		}
	}
	for status, n := range map[int]int{taper.Halted: 40, taper.Trapped: 50, taper.Deadlock: 200, taper.Exhausted: 200, taper.Limit: 500, taper.Broken: 80, taper.Strayed: 80} {
		if seen[status] < n {
			t.Errorf("status %d: %d times", status, seen[status])
		}
	}
}

// P21.2: the log of a Record has just the decisions that were drawn, whatever the size of its segments.
func TestManyRecords(t *testing.T) {
	for seed := range int64(200) {
		r := rand.New(rand.NewSource(seed))
		p, c := sample.Program(r), sample.Config(r)
		n, most := sample.Numbers(r, c, r.Intn(300)), r.Intn(300)
		m := newModel(p, c, source.Oracle(n), 0)
		want := m.run(most, nil)
		b, s := opened(100000, sample.Some(r, 1, 2, 5, 100, 400))
		tells(t, fmt.Sprint("seed ", seed), taper.Record(p, c, n, most, b), want)
		has(t, fmt.Sprint("seed ", seed), s, m.draws.Taken())
	}
}

// P21.1, P21.2: to go on behind any number of a run's decisions, also amid a step, comes to the same, and both logs together are that of the whole run.
func TestManyResumes(t *testing.T) {
	for seed := range int64(200) {
		r := rand.New(rand.NewSource(seed))
		p, c := sample.Program(r), sample.Config(r)
		n, most := sample.Numbers(r, c, r.Intn(200)), r.Intn(250)
		m := newModel(p, c, source.Oracle(n), 0)
		want := m.run(most, nil)
		l := m.draws.Taken()
		for range 5 {
			first := r.Intn(len(l) + 1)
			b, s := opened(100000, sample.Some(r, 1, 3, 50))
			for _, d := range l[:first] {
				b.Add(d)
			}
			tells(t, fmt.Sprint("seed ", seed), taper.Resume(p, c, l[:first], n[first:]).Run(most, b), want)
			has(t, fmt.Sprint("seed ", seed), s, l)
		}
		// More than it takes: nothing comes behind.
		b, s := opened(100000, 3)
		more := slices.Concat(l, picks(0, 3))
		got := taper.Resume(p, c, more, n).Run(want.Steps, b)
		if got.Steps != want.Steps || !slices.Equal(got.Sums, want.Sums) || s.Len() != 0 {
			t.Fatalf("seed %d: %+v\nnot %+v; %d bytes", seed, got, want, s.Len())
		}
	}
}
