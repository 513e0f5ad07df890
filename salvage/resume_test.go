package salvage_test

import (
	"fmt"
	"math"
	"slices"
	"testing"

	"shunter/api"
	"shunter/code"
	"shunter/logbook"
	"shunter/record"
	"shunter/replay"
	"shunter/salvage"
	"shunter/sched"
	"shunter/store"
	"shunter/taper"
)

// sizes are those that a book may have, and some that count as the nearest.
var sizes = []int{math.MinInt, -1, 0, 1, 2, 3, 7, 399, 400, 401, math.MaxInt}

// taken is how many decisions a segment takes by a size.
func taken(size int) int {
	return min(max(size, 1), 400)
}

// resumes holds what Resume answers, and writes behind what can be read of a store, against what it must.
func resumes(t *testing.T, name string, s *store.Store, p code.Program, c sched.Config, n []uint64, size, most int) taper.Result {
	t.Helper()
	l, end, segments := readable(s.Bytes())
	want, drawn := runs(p, c, l, n, most)
	left := s.Bytes()[:end]
	if len(drawn) > len(l) {
		left += logOf(segments, drawn[len(l):], taken(size))
	}
	x, there, err := salvage.Resume(p, c, s, n, size, most)
	if err != api.OK || there != len(l) {
		t.Fatalf("%s: error %d, %d decisions, not %d", name, err, there, len(l))
	}
	tells(t, name, x, want)
	stands(t, name, s, left)
	return x
}

// P23.1: of an empty store it is a Record.
func TestResumeOfNothing(t *testing.T) {
	p, l, _, _ := tour(t)
	for _, size := range sizes {
		for name, s := range map[string]*store.Store{"an empty one": store.New(1000), "one of a byte": kept("?"), "one of half a segment": kept(logOf(0, l, 9)[:9])} {
			x, n, err := salvage.Resume(p, two, s, numbers(l), size, 99)
			tells(t, name, x, toured(t, len(l), 99))
			if n != 0 || err != api.OK {
				t.Errorf("%s: %d decisions, error %d", name, n, err)
			}
			stands(t, name, s, logOf(0, l, taken(size)))
		}
	}
	s := store.New(0)
	x, n, err := salvage.Resume(p, two, s, numbers(l), 2, 99)
	tells(t, "no room", x, taper.Result{Status: taper.Broken, Err: api.ErrFull, Steps: 2, Sums: sums(p, two, l, 2)})
	if n != 0 || err != api.OK || s.Len() != 0 {
		t.Errorf("%d decisions, error %d, %d bytes", n, err, s.Len())
	}
	x, n, err = salvage.Resume(p, two, new(store.Store), nil, 2, 99)
	tells(t, "a zero one, no numbers", x, taper.Result{Status: taper.Exhausted})
	if n != 0 || err != api.OK {
		t.Errorf("%d decisions, error %d", n, err)
	}
}

// P23.1: behind each number of the tour's decisions, with the others' numbers, it comes to the whole tour, whatever the sizes; what was there stands there once, and what is new behind it, once.
func TestResumeBehindEach(t *testing.T) {
	p, l, _, _ := tour(t)
	for there := range len(l) + 1 {
		for _, was := range []int{1, 3, 400} {
			for _, size := range sizes {
				for _, torn := range []string{"", "Sg", framed(99, "\x04")} {
					name := fmt.Sprintf("behind %d, %d a segment, and %d", there, was, size)
					log := logOf(0, l[:there], was)
					s := kept(log + torn)
					x, n, err := salvage.Resume(p, two, s, numbers(l[there:]), size, 99)
					tells(t, name, x, toured(t, len(l), 99))
					if n != there || err != api.OK {
						t.Fatalf("%s: %d decisions, error %d", name, n, err)
					}
					segments := (there + was - 1) / was
					stands(t, name, s, log+logOf(segments, l[there:], taken(size)))
				}
			}
		}
	}
}

// P23.1: a log that ends anywhere; the decisions of its whole segments were there.
func TestResumeCutAnywhere(t *testing.T) {
	p, l, _, _ := tour(t)
	log := logOf(0, l, 3)
	for at := range len(log) + 1 {
		there := at / 11 * 3
		if at == len(log) {
			there = len(l)
		}
		s := kept(log[:at])
		name := fmt.Sprint("cut at ", at)
		x, n, err := salvage.Resume(p, two, s, numbers(l[there:]), 3, 99)
		tells(t, name, x, toured(t, len(l), 99))
		if n != there || err != api.OK {
			t.Fatalf("%s: %d decisions, not %d, error %d", name, n, there, err)
		}
		stands(t, name, s, log)
	}
}

// P23.1: one byte is another; and what stands behind the last segment that counts.
func TestResumeSpoilt(t *testing.T) {
	p, l, _, _ := tour(t)
	log := logOf(0, l, 5)
	for at := range len(log) {
		for _, x := range []byte{1, 4, 128, 255} {
			b := []byte(log)
			b[at] ^= x
			there := min(at/13, 3) * 5
			s := kept(string(b))
			name := fmt.Sprintf("byte %d by %d", at, x)
			x, n, err := salvage.Resume(p, two, s, numbers(l[there:]), 5, 99)
			tells(t, name, x, toured(t, len(l), 99))
			if n != there || err != api.OK {
				t.Fatalf("%s: %d decisions, not %d, error %d", name, n, there, err)
			}
			stands(t, name, s, log)
		}
	}
	for _, behind := range []string{"\x00", "S", "Sg\x04", framed(0, "\x04"), framed(3, "\x04"), framed(5, ""), framed(4, "\x80"), framed(4, "\x04\x80"), log} {
		s := kept(log + behind)
		resumes(t, fmt.Sprintf("%q", behind), s, p, two, []uint64{0, 0, 1, 5, 1, 1}, 4, 99)
	}
}

// P23.1: segments without any decision stay, and count among the numbers of those that come.
func TestResumeSegmentsWithoutDecisions(t *testing.T) {
	p, l, _, _ := tour(t)
	a := record.Bytes(l[:7]...)
	for _, bodies := range [][]string{{""}, {"", "", ""}, {a, ""}, {"", a}, {"", "", a, "", ""}} {
		have := 0
		for _, body := range bodies {
			have += len(body)
		}
		for _, torn := range []string{"", "x"} {
			name := fmt.Sprintf("%q, %q", bodies, torn)
			s := kept(framed(0, bodies...) + torn)
			x, n, err := salvage.Resume(p, two, s, numbers(l[have:]), 4, 99)
			tells(t, name, x, toured(t, len(l), 99))
			if n != have || err != api.OK {
				t.Fatalf("%s: %d decisions, error %d", name, n, err)
			}
			stands(t, name, s, framed(0, bodies...)+logOf(len(bodies), l[have:], 4))
		}
	}
}

// P23.1: numbers: none, few, many; at most so many steps: none, below 0, less than what was there comes to, just as many, more.
func TestResumeNumbersAndMost(t *testing.T) {
	p, l, _, _ := tour(t)
	many := make([]uint64, 600)
	for i := range many {
		many[i] = uint64(i*i) * 0x9e3779b97f4a7c15
	}
	for _, there := range []int{0, 1, 5, 6, 10, 16, 17} {
		for _, n := range [][]uint64{nil, {}, {1}, {math.MaxUint64}, {0, 1}, many[:9], many[:40], many} {
			for _, most := range []int{math.MinInt, -1, 0, 1, 4, 5, 7, 11, 12, 13, 30, 1 << 20, math.MaxInt} {
				for _, size := range []int{0, 1, 3, 400, 500} {
					name := fmt.Sprintf("%d were there, %d numbers, at most %d, %d a segment", there, len(n), most, size)
					s := kept(logOf(0, l[:there], 4))
					x := resumes(t, name, s, p, two, n, size, most)
					first := toured(t, there, most)
					if x.Steps < first.Steps || !slices.Equal(x.Sums[:first.Steps], first.Sums) {
						t.Fatalf("%s: %+v\nnot on from %+v", name, x, first)
					}
					if most <= first.Steps || len(n) == 0 {
						tells(t, name, x, first)
					}
				}
			}
		}
	}
}

// P23.1: at most as many steps as were done: nothing is drawn, though decisions may be left; with no numbers nothing comes.
func TestResumeToWhereItWas(t *testing.T) {
	p, l, _, _ := tour(t)
	log := logOf(0, l, 4)
	for most := range 13 {
		s := kept(log + "torn")
		x, n, err := salvage.Resume(p, two, s, []uint64{7, 7, 7, 7}, 4, most)
		tells(t, "to where it was", x, toured(t, len(l), most))
		if n != len(l) || err != api.OK {
			t.Errorf("%d decisions, error %d", n, err)
		}
		stands(t, "to where it was", s, log)
	}
	s := kept(log)
	x, n, err := salvage.Resume(p, two, s, nil, 4, 99)
	tells(t, "no numbers", x, toured(t, len(l), 99))
	if n != len(l) || err != api.OK {
		t.Errorf("%d decisions, error %d", n, err)
	}
	stands(t, "no numbers", s, log)
}

// P23.1: runs of each end, behind each number of decisions.
func TestResumeEnds(t *testing.T) {
	for _, x := range []struct {
		text   string
		l      []record.Record
		most   int
		status int
		trap   int
		steps  int
		out    []int64
	}{
		{"func\nemit 0\nreturn 0", picks(0, 4), 99, taper.Halted, 0, 4, []int64{0}},
		{"func\nreturn 0", picks(0, 3), 3, taper.Halted, 0, 3, nil},
		{"func\ntrap 9", picks(0, 3), 99, taper.Trapped, 9, 3, nil},
		{"chan 0\nfunc\nclose 0\nclose 0", picks(0, 4), 99, taper.Trapped, -2, 4, nil},
		{"chan 0\nfunc\nrecv 0 1 2", picks(0, 3), 99, taper.Deadlock, 0, 3, nil},
		{"func\njump 0", picks(0, 7), 99, taper.Exhausted, 0, 7, nil},
		{"func\nrand 1 3\njump 0", picks(0, 3), 99, taper.Exhausted, 0, 2, nil},
		{"func\njump 0", picks(0, 5), 5, taper.Limit, 0, 5, nil},
	} {
		p := program(t, x.text)
		want := taper.Result{Status: x.status, Trap: x.trap, Steps: x.steps, Out: x.out, Sums: sums(p, one, x.l, x.steps)}
		for there := range len(x.l) + 1 {
			for _, size := range []int{1, 2, 400} {
				// Numbers that are left when it ended don't come into the log.
				n := numbers(x.l[there:])
				if x.status != taper.Exhausted {
					n = append(n, 5, 5, 5)
				}
				log := logOf(0, x.l[:there], 2)
				s := kept(log + "\x00")
				got, many, err := salvage.Resume(p, one, s, n, size, x.most)
				name := fmt.Sprintf("%s, behind %d, %d a segment", x.text, there, size)
				tells(t, name, got, want)
				if many != there || err != api.OK {
					t.Errorf("%s: %d decisions, error %d", name, many, err)
				}
				stands(t, name, s, log+logOf((there+1)/2, x.l[there:], size))
			}
		}
	}
}

// P23.1: decisions that can't stand where they stand: what is told is what Recover tells, nothing is drawn, and the log stays.
func TestResumeStrayed(t *testing.T) {
	p, l, below, steps := tour(t)
	for n, r := range l {
		for _, d := range []record.Record{{Kind: r.Kind%4 + 1, N: 0}, {Kind: r.Kind, N: uint64(below[n])}} {
			other := slices.Clone(l)
			other[n] = d
			log := logOf(0, other, 3)
			s, twin := kept(log+"Sg"), kept(log)
			x, there, err := salvage.Resume(p, two, s, []uint64{1, 2, 3}, 2, 99)
			want, _, _ := salvage.Recover(p, two, twin, 99)
			name := fmt.Sprintf("decision %d is %+v", n, d)
			tells(t, name, x, want)
			if there != len(l) || err != api.OK || x.Status != taper.Strayed || x.Steps != steps[n] || x.Where.At != n || x.Where.Got != d {
				t.Errorf("%s: %d decisions, error %d, %+v", name, there, err, x)
			}
			stands(t, name, s, log)
		}
	}
}

// P23.1: a second Resume of the same store begins behind all that the first one wrote; P23.3: Replay of its log does it again.
func TestResumeTwice(t *testing.T) {
	p, l, _, _ := tour(t)
	for there := range len(l) + 1 {
		for again := there; again <= len(l); again++ {
			for _, size := range []int{1, 2, 400} {
				s := kept(logOf(0, l[:there], 3) + "Sg")
				name := fmt.Sprintf("behind %d, and again behind %d", there, again)
				x, n, _ := salvage.Resume(p, two, s, numbers(l[there:again]), size, 99)
				tells(t, name, x, toured(t, again, 99))
				y, m, err := salvage.Resume(p, two, s, numbers(l[again:]), 3, 99)
				tells(t, name, y, toured(t, len(l), 99))
				if n != there || m != again || err != api.OK {
					t.Fatalf("%s: %d decisions, then %d, error %d", name, n, m, err)
				}
				z, m, _ := salvage.Resume(p, two, s, nil, 3, 99)
				tells(t, name+", without numbers", z, y)
				got, end, _ := readable(s.Bytes())
				if m != len(l) || !slices.Equal(got, l) || end != s.Len() {
					t.Fatalf("%s: %v\nnot %v", name, got, l)
				}
				tells(t, name+", replayed", replay.Replay(p, two, s.Bytes(), 99), y)
			}
		}
	}
}

// P23.1: a store whose power is cut behind any number of calls, or that has no room: an error if nothing could be cut off, else how far it came is told, and how many decisions were there.
func TestResumeBroken(t *testing.T) {
	p, c := program(t, "func\nemit 0\njump 0"), sched.Config{P: 1, M: 1, Ring: 2, Slice: 99}
	const there, most = 4, 16
	for _, size := range []int{1, 2, 5, 12, 400} {
		for _, torn := range []string{"", "Sg"} {
			for power := range 30 {
				log := logOf(0, picks(0, there), 2)
				s := kept(log + torn)
				s.Arm(power)
				x, n, err := salvage.Resume(p, c, s, make([]uint64, 99), size, most)
				name := fmt.Sprintf("%d a segment, %q, cut behind %d", size, torn, power)
				calls := power - len(torn)/2 // for the cutting off
				if calls < 0 {
					tells(t, name, x, taper.Result{})
					if n != 0 || err != api.ErrCut {
						t.Errorf("%s: %d decisions, error %d", name, n, err)
					}
					continue
				}
				segments := (most - there + size - 1) / size
				whole := min(calls/2, segments)
				want := taper.Result{Status: taper.Broken, Err: api.ErrCut, Steps: min(there+(whole+1)*size, most)}
				if whole == segments {
					want = taper.Result{Status: taper.Limit, Steps: most}
				}
				want.Out, want.Sums = make([]int64, (want.Steps-1)/2), sums(p, c, picks(0, want.Steps), want.Steps)
				tells(t, name, x, want)
				if n != there || err != api.OK {
					t.Errorf("%s: %d decisions, error %d", name, n, err)
				}
				s.Crash(0, "")
				stands(t, name, s, log+logOf(2, picks(0, min(whole*size, most-there)), size))
			}
		}
	}
}

// P23.1: what was cut off makes room for what comes.
func TestResumeRoom(t *testing.T) {
	p := program(t, "func\njump 0")
	log := logOf(0, picks(0, 4), 2)
	for room := len(log) + 9; room < len(log)+40; room++ {
		s := store.New(room)
		s.Append(log + "Sg??????")
		x, n, err := salvage.Resume(p, one, s, make([]uint64, 99), 1, 99)
		more := (room - len(log)) / 9
		steps := 4 + more + 1
		tells(t, fmt.Sprint("room ", room), x, taper.Result{Status: taper.Broken, Err: api.ErrFull, Steps: steps, Sums: sums(p, one, picks(0, steps), steps)})
		if n != 4 || err != api.OK {
			t.Errorf("%d decisions, error %d", n, err)
		}
		stands(t, fmt.Sprint("room ", room), s, log+logOf(2, picks(0, more), 1))
	}
}

// K3: answers share nothing, and what is handed in stays.
func TestResumeKeepsNothing(t *testing.T) {
	p, l, _, _ := tour(t)
	n := numbers(l[9:])
	still := slices.Clone(n)
	x, _, _ := salvage.Resume(p, two, kept(logOf(0, l[:9], 4)), n, 4, 99)
	y, _, _ := salvage.Resume(p, two, kept(logOf(0, l[:9], 4)), n, 4, 99)
	clear(x.Sums[:cap(x.Sums)])
	clear(x.Out[:cap(x.Out)])
	tells(t, "the other one", y, toured(t, len(l), 99))
	again, _, _, _ := tour(t)
	if !slices.Equal(n, still) || fmt.Sprint(p) != fmt.Sprint(again) {
		t.Error("what was handed in changed")
	}
}

// P23.1: a size is that of layer 6's book: what comes into a segment at most.
func TestSizes(t *testing.T) {
	p := program(t, "func\njump 0")
	for _, size := range append(sizes, 5, 50, 100) {
		s := store.New(1 << 20)
		salvage.Resume(p, one, s, make([]uint64, 900), size, 900)
		if _, _, segments := readable(s.Bytes()); segments != (900+taken(size)-1)/taken(size) || logbook.MostSize != 400 {
			t.Errorf("size %d: %d segments", size, segments)
		}
	}
}
