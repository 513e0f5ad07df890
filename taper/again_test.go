package taper_test

import (
	"fmt"
	"slices"
	"testing"

	"shunter/logbook"
	"shunter/record"
	"shunter/source"
	"shunter/store"
	"shunter/taper"
)

// piece is what one of several Runs of the tour must tell: how many steps it may do, how many there were ever, how it ended, how many draws were taken ever.
type piece struct {
	most, steps, status, taken int
}

// pieces are Runs behind Limit, behind Exhausted, and of no steps, of the tour's first draws; the last one draws nothing behind the end.
func pieces() []piece {
	return []piece{
		{0, 0, taper.Limit, 0}, {1, 1, taper.Limit, 1}, {-5, 1, taper.Limit, 1}, {4, 5, taper.Limit, 6}, {0, 5, taper.Limit, 6},
		{2, 7, taper.Limit, 10}, {1, 8, taper.Limit, 12}, {99, 11, taper.Exhausted, 16}, {1, 11, taper.Exhausted, 16}, {0, 11, taper.Limit, 16}, {99, 11, taper.Exhausted, 16},
	}
}

// want is the result of a piece.
func (x piece) want(e tour, all []uint32) taper.Result {
	return taper.Result{Status: x.status, Steps: x.steps, Out: e.told(x.steps), Sums: all[:x.steps]}
}

// P21.1, P21.2: Run asked again goes on: Steps and Sums of all that was ever done, the book has the decisions of all, those of a step whose draw found nothing just once.
func TestAgainWithOneBook(t *testing.T) {
	e := theTour()
	e.draws = e.draws[:16]
	p := program(t, e.text)
	all := sums(t, p, two, e.draws, 11)
	for _, size := range []int{1, 2, 3, 400} {
		for _, w := range ways(p, two, e.draws) {
			b, s := opened(10000, size)
			for i, x := range pieces() {
				name := fmt.Sprintf("%s, %d a segment, piece %d", w.name, size, i)
				tells(t, name, w.runner.Run(x.most, b), x.want(e, all))
				has(t, name, s, e.draws[min(w.there, x.taken):x.taken])
			}
		}
	}
}

// P21.2: each Run with a book of its own: it has the decisions of that Run alone.
func TestAgainWithOtherBooks(t *testing.T) {
	e := theTour()
	e.draws = e.draws[:16]
	p := program(t, e.text)
	all := sums(t, p, two, e.draws, 11)
	for _, w := range ways(p, two, e.draws) {
		before := 0
		var stores []*store.Store
		var want [][]record.Record
		for i, x := range pieces() {
			b, s := opened(10000, 2)
			name := fmt.Sprintf("%s, piece %d", w.name, i)
			tells(t, name, w.runner.Run(x.most, b), x.want(e, all))
			from := max(before, w.there)
			stores, want = append(stores, s), append(want, e.draws[min(from, x.taken):x.taken])
			before = x.taken
			for j := range stores {
				has(t, name, stores[j], want[j])
			}
		}
	}
}

// P21.2: some Runs with no book: what they drew comes into none, also not later.
func TestAgainWithoutABook(t *testing.T) {
	e := theTour()
	e.draws = e.draws[:16]
	p := program(t, e.text)
	all := sums(t, p, two, e.draws, 11)
	for _, every := range []int{2, 3} {
		for first := range every {
			for _, w := range ways(p, two, e.draws) {
				b, s := opened(10000, 3)
				before := 0
				var want []record.Record
				for i, x := range pieces() {
					name := fmt.Sprintf("%s, piece %d", w.name, i)
					if i%every == first {
						tells(t, name, w.runner.Run(x.most, nil), x.want(e, all))
					} else {
						tells(t, name, w.runner.Run(x.most, b), x.want(e, all))
						want = append(want, e.draws[min(max(before, w.there), x.taken):x.taken]...)
					}
					before = x.taken
					has(t, name, s, want)
				}
			}
		}
	}
}

// P21.1: Run asked again behind the end: nothing is done, or drawn; all is told once more.
func TestAgainBehindTheEnd(t *testing.T) {
	for _, x := range []struct {
		text   string
		status int
		trap   int
	}{{"func\nemit 0\nreturn 0", taper.Halted, 0}, {"func\nemit 0\ntrap 9", taper.Trapped, 9}, {"chan 0\nfunc\nemit 0\nrecv 0 1 2", taper.Deadlock, 0}} {
		p := program(t, x.text)
		want := taper.Result{Status: x.status, Trap: x.trap, Steps: 4, Out: []int64{0}, Sums: sums(t, p, one, picks(0, 4), 4)}
		for _, w := range ways(p, one, picks(0, 4)) {
			b, s := opened(1000, 3)
			tells(t, x.text, w.runner.Run(4, b), want)
			has(t, x.text, s, picks(0, 4-w.there))
			other, empty := opened(1000, 1)
			for _, most := range []int{99, 1, 0, -1} {
				tells(t, x.text+", again", w.runner.Run(most, b), want)
				tells(t, x.text+", without a book", w.runner.Run(most, nil), want)
				tells(t, x.text+", with another book", w.runner.Run(most, other), want)
			}
			has(t, x.text, s, picks(0, 4-w.there))
			has(t, x.text, empty, nil)
		}
	}
}

// P21.1: behind the end a book's own decisions are written, if they wait; one that can't be is broken.
func TestFlushBehindTheEnd(t *testing.T) {
	p := program(t, "func\ntrap 5")
	r := taper.Start(p, one, source.Oracle(make([]uint64, 9)))
	want := taper.Result{Status: taper.Trapped, Trap: 5, Steps: 3, Sums: sums(t, p, one, picks(0, 3), 3)}
	tells(t, "the end", r.Run(9, nil), want)
	b, s := opened(1000, 9)
	b.Add(number(4))
	tells(t, "one waits", r.Run(9, b), want)
	has(t, "one waits", s, []record.Record{number(4)})
	full, _ := opened(8, 9)
	full.Add(number(4))
	tells(t, "one can't be written", r.Run(9, full), taper.Result{Status: taper.Broken, Steps: 3, Sums: want.Sums, Err: 6})
}

// reopened is a book of a store's own bytes.
func reopened(s *store.Store, size int) *logbook.Book {
	b, _, _ := logbook.Open(s, size)
	return b
}

// P21.2: one and the same store, closed and opened again between Runs: the segments of the log go on.
func TestAgainWithTheStore(t *testing.T) {
	e := theTour()
	p := program(t, e.text)
	for _, size := range []int{1, 2, 5} {
		r := taper.Start(p, two, source.Tape(e.draws))
		s := store.New(10000)
		for range 7 {
			r.Run(2, reopened(s, size))
		}
		has(t, "opened again", s, e.draws)
	}
}

// P21.1, P21.2: steps that somebody else had its scheduler do are steps that it ever did, and what they drew was taken since.
func TestStepsByOthers(t *testing.T) {
	e := theTour()
	p := program(t, e.text)
	for before := range 6 {
		for _, w := range ways(p, two, e.draws) {
			b, s := opened(1000, 3)
			w.runner.Run(2, b)
			for range before {
				w.runner.Sched().Step()
			}
			x := w.runner.Run(99, b)
			if x.Status != taper.Exhausted || x.Steps != 12 {
				t.Errorf("%s, %d by others: status %d, %d steps", w.name, before, x.Status, x.Steps)
			}
			has(t, w.name, s, e.draws[w.there:])
		}
	}
}

// K3: what answers told stays as it is, whatever is done later, and whatever becomes of them changes nothing.
func TestAnswersStay(t *testing.T) {
	p := program(t, "func\nrand 1 90\nemit 1\njump 0")
	r := taper.Start(p, one, source.Oracle(make([]uint64, 400)))
	var kept, still []taper.Result
	for range 30 {
		x := r.Run(7, nil)
		kept = append(kept, x)
		x.Out, x.Sums = slices.Clone(x.Out), slices.Clone(x.Sums)
		still = append(still, x)
		again := r.Run(0, nil)
		spoil(again.Out)
		spoil(again.Sums)
	}
	for i := range kept {
		tells(t, fmt.Sprint("answer ", i), kept[i], still[i])
		spoil(kept[i].Out)
		spoil(kept[i].Sums)
	}
	tells(t, "at last", r.Run(0, nil), still[len(still)-1])
}

// spoil: whatever a list has, and what is behind its end, is another now.
func spoil[T int64 | uint32](l []T) {
	l = l[:cap(l)]
	for i := range l {
		l[i] = 1 << 30
	}
}

// K3: what a runner was made of isn't kept: it may change.
func TestWhatItWasMadeOfMayChange(t *testing.T) {
	e := theTour()
	all := sums(t, program(t, e.text), two, e.draws, 12)
	for i := range ways(program(t, e.text), two, e.draws) {
		p, l := program(t, e.text), slices.Clone(e.draws)
		r := ways(p, two, l)[i].runner
		clear(l)
		for _, f := range p.Funcs {
			clear(f)
		}
		clear(p.Chans)
		clear(p.Cases)
		tells(t, fmt.Sprint("way ", i), r.Run(99, nil), taper.Result{Status: taper.Exhausted, Steps: 12, Out: e.told(12), Sums: all})
	}
	// And what calls are handed stays as it is.
	p, l := program(t, e.text), slices.Clone(e.draws)
	n := numbers(l)
	b, s := opened(1000, 3)
	taper.Resume(p, two, l[:5], n[5:]).Run(99, b)
	taper.Record(p, two, n, 99, b)
	if !slices.Equal(l, e.draws) || !slices.Equal(n, numbers(e.draws)) || fmt.Sprint(p) != fmt.Sprint(program(t, e.text)) {
		t.Error("what was handed in changed")
	}
	has(t, "gone on, and recorded", s, slices.Concat(e.draws[5:], e.draws))
}
