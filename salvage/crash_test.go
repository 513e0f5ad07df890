package salvage_test

import (
	"bytes"
	"fmt"
	"math/rand"
	"slices"
	"strings"
	"testing"

	"shunter/api"
	"shunter/code"
	"shunter/logbook"
	"shunter/record"
	"shunter/salvage"
	"shunter/sample"
	"shunter/sched"
	"shunter/store"
	"shunter/taper"
)

// life is a run that nothing cuts off: what becomes of it, and what it draws.
type life struct {
	p     code.Program
	c     sched.Config
	n     []uint64
	most  int
	whole taper.Result
	drawn []record.Record
}

func newLife(p code.Program, c sched.Config, n []uint64, most int) life {
	x := life{p: p, c: c, n: n, most: most}
	x.whole, x.drawn = runs(p, c, nil, n, most)
	return x
}

// cut is a store on which the run was recorded, up to where its power was cut, and how many decisions were sure then.
func (x life) cut(t *testing.T, size, power int) (s *store.Store, sure int) {
	t.Helper()
	s = store.New(1 << 20)
	b, _, _ := logbook.Open(s, size)
	s.Arm(power)
	r := taper.Record(x.p, x.c, x.n, x.most, b)
	if many, none := salvage.Sure(r, x.whole); many != r.Steps || !none || s.Dead() != (r.Status == taper.Broken) {
		t.Fatalf("%d of %d steps are the same; %+v", many, r.Steps, r)
	}
	return s, b.Sure()
}

// twin is a store with the same bytes, of which as many are safe.
func twin(s *store.Store) *store.Store {
	u := kept(s.Bytes()[:s.Safe()])
	u.Append(s.Bytes()[s.Safe():])
	return u
}

// first holds what Recover answers of a store behind a crash against the run: its first decisions, as many as these at least, and the states that they come to.
func (x life) first(t *testing.T, name string, s *store.Store, least int) []record.Record {
	t.Helper()
	r, l, err := salvage.Recover(x.p, x.c, s, x.most)
	if err != api.OK || len(l) < least || len(l) > len(x.drawn) || !slices.Equal(l, x.drawn[:len(l)]) {
		t.Fatalf("%s: error %d, %v\nnot the first %d, at least, of %v", name, err, l, least, x.drawn)
	}
	want, _ := runs(x.p, x.c, l, nil, x.most)
	tells(t, name, r, want)
	many, none := salvage.Sure(r, x.whole)
	if many != r.Steps || !none || len(r.Sums) != r.Steps || r.Steps > x.whole.Steps || !slices.Equal(r.Sums, x.whole.Sums[:r.Steps]) {
		t.Fatalf("%s: %d of the states are the first ones: %+v\nof %+v", name, many, r, x.whole)
	}
	if len(l) < len(x.drawn) && r.Status != taper.Exhausted {
		t.Fatalf("%s: %d of %d decisions: %+v", name, len(l), len(x.drawn), r)
	}
	if len(l) == len(x.drawn) && len(l) > 0 {
		tells(t, name, r, x.whole)
	}
	return l
}

// crowd is a run in which many things happen.
func crowd(t *testing.T) life {
	t.Helper()
	p := program(t, "chan 0\nchan 2\nlocks 1\nrecv 0 1\nrecv 1 1\nfunc\nspawn 1 0 2\nspawn 1 0 2\nspawn 2 0 2\nselect 0 2 3\nemit 1\njump 3\nfunc\nlock 0\nrand 1 50\nsend 0 1\nunlock 0\nsleep 1\njump 0\nfunc\nrand 1 9\nsend 1 1\njump 0")
	r := rand.New(rand.NewSource(5))
	var n []uint64
	for range 90 {
		n = append(n, r.Uint64()>>r.Intn(64))
	}
	return newLife(p, sched.Config{P: 2, M: 3, Ring: 2, Slice: 3}, n, 200)
}

// P23.2: the power is cut behind each call, and any number of the bytes that aren't safe stay.
func TestCutBehindEachCall(t *testing.T) {
	x := crowd(t)
	if len(x.drawn) < 80 || x.whole.Status != taper.Exhausted || len(x.whole.Out) < 2 {
		t.Fatalf("%d decisions, %+v", len(x.drawn), x.whole)
	}
	for _, size := range []int{1, 4, 9, 30, 400} {
		segments := (len(x.drawn) + size - 1) / size
		for power := range 2*segments + 3 {
			s, sure := x.cut(t, size, power)
			torn := s.Len() - s.Safe()
			if want := min(power/2*size, len(x.drawn)); sure != want || (torn > 0) != (power%2 == 1 && power < 2*segments) {
				t.Fatalf("%d a segment, cut behind %d: %d sure, not %d; %d bytes aren't safe", size, power, sure, want, torn)
			}
			for _, keep := range []int{-1, 0, 1, 2, 3, torn / 2, torn - 5, torn - 4, torn - 1, torn, torn + 1} {
				s := twin(s)
				s.Crash(keep, "")
				l := x.first(t, fmt.Sprintf("%d a segment, cut behind %d, %d bytes stay", size, power, keep), s, sure)
				// A segment that stays whole counts, too.
				want := sure
				if keep >= torn && torn > 0 {
					want = min(sure+size, len(x.drawn))
				}
				if len(l) != want || s.Bytes() != logOf(0, l, size) || s.Safe() != s.Len() {
					t.Fatalf("%d a segment, cut behind %d, %d bytes stay: %d decisions, not %d", size, power, keep, len(l), want)
				}
			}
		}
	}
}

// P23.2: each byte that isn't safe may be another one, whatever it comes to be, and however many stay.
func TestEachByteMayBeAnother(t *testing.T) {
	x := crowd(t)
	for _, size := range []int{1, 9, 400} {
		for _, power := range []int{1, 3, 5} {
			s, sure := x.cut(t, size, power)
			torn := s.Bytes()[s.Safe():]
			for at := range len(torn) {
				for _, other := range []byte{1, 8, 64, 128, 255} {
					for _, keep := range []int{at + 1, len(torn)} {
						s := twin(s)
						with := []byte(torn)
						with[at] ^= other
						s.Crash(keep, string(with))
						l := x.first(t, fmt.Sprintf("%d a segment, cut behind %d, byte %d by %d, %d stay", size, power, at, other, keep), s, sure)
						if len(l) != sure {
							t.Fatalf("%d decisions, not %d", len(l), sure)
						}
					}
				}
			}
		}
	}
}

// noise are bytes that may come of those that weren't safe: none of them looks like a segment.
func noise(r *rand.Rand, torn string) string {
	b := make([]byte, r.Intn(40))
	r.Read(b)
	if r.Intn(2) == 0 && len(torn) > 0 {
		b = []byte(torn[:r.Intn(len(torn)+1)])
		for range r.Intn(3) {
			if len(b) > 0 {
				b[r.Intn(len(b))] = byte(r.Intn(256))
			}
		}
	}
	return sample.Some(r, "", "Sg", "Sg\x00\x00", strings.Repeat("\x00", 500), strings.Repeat("Sg", 90), string(b), string(b), string(b))
}

// P23.2: many programs, configs, numbers, sizes, cuts, and whatever comes of the bytes.
func TestManyCrashes(t *testing.T) {
	whole, none, between := 0, 0, 0
	for seed := range int64(300) {
		r := rand.New(rand.NewSource(seed))
		c := sample.Config(r)
		x := newLife(sample.Program(r), c, sample.Numbers(r, c, r.Intn(200)), r.Intn(250))
		size := sample.Some(r, 1, 2, 3, 8, 40, 400)
		for range 4 {
			s, sure := x.cut(t, size, r.Intn(2*len(x.drawn)/size+4))
			torn := s.Bytes()[s.Safe():]
			with := noise(r, torn)
			s.Crash(r.Intn(len(torn)+2), with)
			l := x.first(t, fmt.Sprint("seed ", seed), s, sure)
			switch {
			case len(l) == len(x.drawn):
				whole++
			case len(l) == 0:
				none++
			default:
				between++
			}
			if !bytes.HasPrefix([]byte(logOf(0, x.drawn, size)), []byte(s.Bytes())) && len(l)%size == 0 {
				t.Fatalf("seed %d: the log is %q", seed, s.Bytes())
			}
		}
	}
	if whole < 100 || none < 100 || between < 200 {
		t.Errorf("%d whole ones, %d of nothing, %d between", whole, none, between)
	}
}

// P23.2: a crash amid Recover itself: what can't be cut off yet is cut off by the next one.
func TestCrashAmidRecover(t *testing.T) {
	x := crowd(t)
	for power := range 12 {
		s, sure := x.cut(t, 7, power)
		s.Crash(9, "")
		had := s.Bytes()
		_, end, _ := readable(had)
		torn := end < len(had)
		s.Arm(0)
		r, l, err := salvage.Recover(x.p, x.c, s, x.most)
		if torn && (err != api.ErrCut || l != nil || s.Bytes() != had) {
			t.Fatalf("cut behind %d: error %d, %v", power, err, l)
		}
		if torn != (power%2 == 1) {
			t.Fatalf("cut behind %d: torn: %t", power, torn)
		}
		if torn {
			tells(t, "amid Recover", r, taper.Result{})
		}
		s.Crash(0, "Sg")
		if l = x.first(t, "behind both", s, sure); len(l) != sure {
			t.Fatalf("%d decisions, not %d", len(l), sure)
		}
	}
}
