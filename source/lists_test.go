package source_test

import (
	"math"
	"slices"
	"testing"

	"shunter/record"
	"shunter/source"
)

// spoil writes others over all that a list has, and over what there is room for behind it.
func spoil[T any](l []T, with T) {
	l = l[:cap(l)]
	for i := range l {
		l[i] = with
	}
}

// P17.1, K3: what is done to the slices that were given changes no draw.
func TestWhatWasGivenIsChangedLater(t *testing.T) {
	for ahead := range 4 {
		numbers, behind := []uint64{3, 4, 5, 6}, []uint64{5, 6, 7}
		l, first := []record.Record{pick(3), pick(4), pick(5), pick(6)}, []record.Record{pick(3), pick(4), pick(5)}
		of := []*source.Source{source.Oracle(numbers[:3]), source.Tape(l[:3]), source.Chain(first[:2], behind[:1])}
		for at := range 3 {
			if at == ahead {
				spoil(numbers, 0)
				spoil(behind, 0)
				spoil(l, victim(9))
				spoil(first, victim(9))
			}
			for _, s := range of {
				draws(t, s, record.Pick, 9, at+3)
			}
		}
		for _, s := range of {
			shows(t, s, 0, pick(3), pick(4), pick(5))
			dry(t, s)
		}
	}
}

// P17.1, K3: what is done to what Taken answered changes neither what is answered later, nor a draw.
func TestWhatTakenAnsweredIsChangedLater(t *testing.T) {
	for _, s := range []*source.Source{
		source.Oracle([]uint64{3, 4, 5}),
		source.Tape([]record.Record{pick(3), pick(4), pick(5)}),
		source.Chain([]record.Record{pick(3)}, []uint64{4, 5}),
	} {
		spoil(s.Taken(), victim(9))
		var want []record.Record
		for at := range 3 {
			draws(t, s, record.Pick, 9, at+3)
			want = append(want, pick(uint64(at+3)))
			spoil(s.Taken(), victim(9))
			_ = append(s.Taken(), victim(9))
			shows(t, s, 2-at, want...)
		}
	}
}

// P17.1, K3: no draw changes what was given, nor what Taken answered ahead of it.
func TestDrawsChangeNoList(t *testing.T) {
	numbers, l := []uint64{3, 1<<63 + 1, 5}, []record.Record{pick(3), pick(1), pick(5)}
	for _, s := range []*source.Source{source.Oracle(numbers), source.Tape(l), source.Chain(l[:1], numbers[1:])} {
		var answered [][]record.Record
		for s.Left() > 0 {
			answered = append(answered, s.Taken())
			s.Draw(record.Pick, 8)
		}
		dry(t, s)
		for i, a := range append(answered, s.Taken()) {
			if !slices.Equal(a, l[:i]) {
				t.Errorf("what Taken answered behind %d draws became %v", i, a)
			}
		}
	}
	if !slices.Equal(numbers, []uint64{3, 1<<63 + 1, 5}) || !slices.Equal(l, []record.Record{pick(3), pick(1), pick(5)}) {
		t.Errorf("what was given became %v, %v", numbers, l)
	}
}

// P17.1, K3: two sources of the same lists go on by themselves.
func TestSourcesOfTheSameLists(t *testing.T) {
	numbers, l := []uint64{6, 7}, []record.Record{pick(4), pick(5)}
	a, b := source.Chain(l, numbers), source.Chain(l, numbers)
	for at := range 4 {
		draws(t, a, record.Pick, 9, at+4)
	}
	shows(t, b, 4)
	for at := range 4 {
		draws(t, b, record.Pick, 9, at+4)
	}
	draws(t, source.Tape(l), record.Pick, 9, 4)
	draws(t, source.Oracle(numbers), record.Pick, 9, 6)
}

// eye keeps what it sees.
type eye struct{ seen []record.Record }

func (e *eye) see(r record.Record) { e.seen = append(e.seen, r) }

func (e *eye) saw(t *testing.T, name string, want ...record.Record) {
	t.Helper()
	if !slices.Equal(e.seen, want) {
		t.Errorf("%s saw %v, not %v", name, e.seen, want)
	}
}

// P17.1: each draw from then on is seen; another Watch takes its place; nil: none is seen.
func TestWatch(t *testing.T) {
	for _, s := range []*source.Source{
		source.Oracle([]uint64{1, 2, 3, 1<<63 + 8, 5, 6}),
		source.Tape([]record.Record{pick(1), pick(2), victim(3), number(0), pick(5), pick(6)}),
		source.Chain([]record.Record{pick(1), pick(2), victim(3)}, []uint64{8, 5, 6}),
	} {
		var a, b eye
		s.Draw(record.Pick, 9)
		s.Watch(a.see)
		s.Draw(record.Pick, 9)
		s.Draw(record.Victim, 9)
		a.saw(t, "the first one", pick(2), victim(3))
		s.Watch(b.see)
		s.Draw(record.Rand, -1)
		s.Watch(nil)
		s.Draw(record.Pick, 9)
		s.Watch(b.see)
		s.Draw(record.Pick, 9)
		a.saw(t, "the first one", pick(2), victim(3))
		b.saw(t, "the second one", number(0), pick(6))
		shows(t, s, 0, pick(1), pick(2), victim(3), number(0), pick(5), pick(6))
	}
}

// P17.1: a draw that panics isn't seen; what it strayed at is, when it is taken.
func TestADrawThatPanicsIsNotSeen(t *testing.T) {
	for _, s := range []*source.Source{source.Tape([]record.Record{pick(3)}), source.Chain([]record.Record{pick(3)}, []uint64{4})} {
		var e eye
		s.Watch(e.see)
		panics(t, s, record.Victim, 9, source.Unlike{Kind: record.Victim, N: 9, Got: pick(3)})
		panics(t, s, record.Pick, 3, source.Unlike{Kind: record.Pick, N: 3, Got: pick(3)})
		e.saw(t, "behind what strayed, it", nil...)
		draws(t, s, record.Pick, 4, 3)
		e.saw(t, "behind a draw that fits, it", pick(3))
	}
	s, e := source.Oracle([]uint64{4}), eye{}
	s.Watch(e.see)
	draws(t, s, record.Rand, math.MinInt, 0)
	dry(t, s)
	e.saw(t, "of an oracle that is dry, it", number(0))
}

// P17.1: it is seen when it is taken: ahead of the answer, and as one that was.
func TestWatchSeesWhatIsTaken(t *testing.T) {
	s := source.Chain([]record.Record{pick(3)}, []uint64{14, 15})
	seen := 0
	s.Watch(func(r record.Record) {
		seen++
		taken := s.Taken()
		if len(taken) != seen || taken[seen-1] != r || s.Left() != 3-seen {
			t.Errorf("%v is seen, when %v are taken, %d are left", r, taken, s.Left())
		}
	})
	draws(t, s, record.Pick, 4, 3)
	draws(t, s, record.Case, 10, 4)
	draws(t, s, record.Rand, 10, 5)
	if seen != 3 {
		t.Errorf("%d were seen", seen)
	}
}

// P17.1: who sees a draw may let another one see those behind it, or none.
func TestWatchWithinWatch(t *testing.T) {
	s := source.Oracle([]uint64{1, 2, 3, 4})
	var a, b eye
	s.Watch(func(r record.Record) {
		a.see(r)
		s.Watch(func(r record.Record) {
			b.see(r)
			s.Watch(nil)
		})
	})
	for range 4 {
		s.Draw(record.Pick, 9)
	}
	a.saw(t, "the first one", pick(1))
	b.saw(t, "the second one", pick(2))
}

// P17.1: each source has a watcher of its own.
func TestWatchOfAnotherSource(t *testing.T) {
	a, b := source.Oracle([]uint64{1, 2}), source.Oracle([]uint64{3, 4})
	var e eye
	a.Watch(e.see)
	a.Draw(record.Pick, 9)
	b.Draw(record.Pick, 9)
	a.Draw(record.Pick, 9)
	e.saw(t, "it", pick(1), pick(2))
}
