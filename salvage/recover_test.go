package salvage_test

import (
	"fmt"
	"math"
	"slices"
	"testing"

	"shunter/api"
	"shunter/code"
	"shunter/record"
	"shunter/salvage"
	"shunter/sched"
	"shunter/source"
	"shunter/store"
	"shunter/taper"
)

// recovers holds what Recover answers, and leaves on a store, of these bytes.
func recovers(t *testing.T, name string, p code.Program, c sched.Config, text string, most int, want taper.Result, l []record.Record, left string) {
	t.Helper()
	s := kept(text)
	x, got, err := salvage.Recover(p, c, s, most)
	if err != api.OK || !slices.Equal(got, l) {
		t.Fatalf("%s: error %d, %v\nnot %v", name, err, got, l)
	}
	tells(t, name, x, want)
	stands(t, name, s, left)
}

// P23.1: the document's example, and other stores without anything.
func TestNothing(t *testing.T) {
	p := program(t, "func\nreturn 0")
	for name, s := range map[string]*store.Store{"an empty one": store.New(100), "one without room": store.New(0), "a zero one": new(store.Store), "one without power": dead(store.New(100))} {
		x, l, err := salvage.Recover(p, one, s, 9)
		tells(t, name, x, taper.Result{Status: taper.Exhausted})
		if len(l) != 0 || err != api.OK || s.Len() != 0 {
			t.Errorf("%s: %v, error %d, %d bytes", name, l, err, s.Len())
		}
		x, _, _ = salvage.Recover(p, one, s, 0)
		tells(t, name+", no steps", x, taper.Result{Status: taper.Limit})
	}
}

// dead is a store whose power is cut.
func dead(s *store.Store) *store.Store {
	s.Arm(0)
	s.Sync()
	return s
}

// P23.1: runs of each end, with so many decisions a segment.
func TestRecoverEnds(t *testing.T) {
	for _, x := range []struct {
		text   string
		l      []record.Record
		most   int
		status int
		trap   int
		steps  int
		out    []int64
	}{
		{"func\nemit 0\nreturn 0", picks(0, 9), 99, taper.Halted, 0, 4, []int64{0}},
		{"func\nreturn 0", picks(0, 3), 3, taper.Halted, 0, 3, nil},
		{"func\ntrap 9", picks(0, 3), 99, taper.Trapped, 9, 3, nil},
		{"chan 0\nfunc\nclose 0\nclose 0", picks(0, 5), 99, taper.Trapped, -2, 4, nil},
		{"chan 0\nfunc\nrecv 0 1 2", picks(0, 3), 99, taper.Deadlock, 0, 3, nil},
		{"func\njump 0", picks(0, 7), 99, taper.Exhausted, 0, 7, nil},
		{"func\nrand 1 3\njump 0", picks(0, 3), 99, taper.Exhausted, 0, 2, nil},
		{"func\njump 0", picks(0, 7), 5, taper.Limit, 0, 5, nil},
		{"func\njump 0", picks(0, 7), 7, taper.Limit, 0, 7, nil},
	} {
		p := program(t, x.text)
		want := taper.Result{Status: x.status, Trap: x.trap, Steps: x.steps, Out: x.out, Sums: sums(p, one, x.l, x.steps)}
		for _, size := range []int{1, 2, 3, 400} {
			log := logOf(0, x.l, size)
			recovers(t, x.text, p, one, log, x.most, want, x.l, log)
			recovers(t, x.text+", and more", p, one, log+"Sg", x.most, want, x.l, log)
		}
	}
}

// P23.1: none, below 0, fewer, as many, and more steps than there are: the decisions are all the same.
func TestRecoverMost(t *testing.T) {
	p, l, _, _ := tour(t)
	log := logOf(0, l, 4)
	for _, most := range []int{math.MinInt, -1, 0, 1, 5, 11, 12, 13, 1 << 20, math.MaxInt} {
		recovers(t, fmt.Sprint("at most ", most), p, two, log+"S", most, toured(t, len(l), most), l, log)
	}
}

// P23.1: a log that ends anywhere: between two segments, within one, within one's head: the decisions of the whole ones, and just these bytes are left.
func TestRecoverCutAnywhere(t *testing.T) {
	p, l, _, _ := tour(t)
	for _, size := range []int{1, 3, 5, 400} {
		log := logOf(0, l, size)
		for at := range len(log) + 1 {
			whole := min(at/(size+8)*size, len(l)) // each decision has a byte, and each segment 8 beside
			if at == len(log) {
				whole = len(l)
			}
			name := fmt.Sprintf("%d a segment, cut at %d", size, at)
			recovers(t, name, p, two, log[:at], 99, toured(t, whole, 99), l[:whole], logOf(0, l[:whole], size))
		}
	}
}

// P23.1: one byte is another, and more bytes stand behind: the decisions of the segments ahead of it are left.
func TestRecoverAnotherByte(t *testing.T) {
	p, l, _, _ := tour(t)
	log := logOf(0, l, 5)
	for at := range len(log) {
		whole := min(at/13, 3) * 5
		for _, x := range []byte{1, 2, 4, 16, 128, 255} {
			b := []byte(log)
			b[at] ^= x
			recovers(t, fmt.Sprintf("byte %d by %d", at, x), p, two, string(b), 99, toured(t, whole, 99), l[:whole], logOf(0, l[:whole], 5))
		}
	}
}

// P23.1: what stands behind the last segment that counts: such as begin one, are one of another number, have another sum, or a body that isn't decisions to its end.
func TestRecoverBytesBehind(t *testing.T) {
	p, l, _, _ := tour(t)
	log := logOf(0, l, 6) // three segments
	spoilt := []byte(framed(3, "\x04"))
	spoilt[len(spoilt)-1]++
	for name, text := range map[string]string{
		"a byte 0": "\x00", "a line's end": "\n", "S": "S", "Sg": "Sg", "a number": "Sg\x03", "a length": "Sg\x03\x00",
		"the first number": framed(0, "\x04"), "the last number": framed(2, "\x04"), "a number left out": framed(4, "\x04"), "a number left out, empty": framed(4, ""),
		"another sum": string(spoilt), "half a decision": framed(3, "\x80"), "a decision and a half": framed(3, "\x04\x80"), "a decision by too many bytes": framed(3, "\x84\x00"),
		"the log once more": log,
	} {
		want := toured(t, len(l), 99)
		recovers(t, name, p, two, log+text, 99, want, l, log)
		recovers(t, name+", and one more", p, two, log+text+framed(3, "\x04"), 99, want, l, log)
		recovers(t, name+", alone", p, two, "\x00"+text, 99, taper.Result{Status: taper.Exhausted}, nil, "")
	}
}

// P23.1: segments without any decision are some of the log, and stay.
func TestRecoverSegmentsWithoutDecisions(t *testing.T) {
	p, l, _, _ := tour(t)
	a, b := record.Bytes(l[:7]...), record.Bytes(l[7:]...)
	for _, bodies := range [][]string{{""}, {"", "", ""}, {a, b}, {"", a, b}, {a, "", b}, {a, b, ""}, {"", "", a, "", "", b, "", ""}, {a, ""}, {"", a}} {
		have := 0
		for _, body := range bodies {
			have += len(body)
		}
		name, log := fmt.Sprintf("%q", bodies), framed(0, bodies...)
		recovers(t, name, p, two, log, 99, toured(t, have, 99), l[:have], log)
		recovers(t, name+", and a byte", p, two, log+"\x00", 99, toured(t, have, 99), l[:have], log)
		// Without its last byte the last one is torn, also if it is empty.
		last := len(bodies) - 1
		have -= len(bodies[last])
		recovers(t, name+", torn", p, two, log[:len(log)-1], 99, toured(t, have, 99), l[:have], framed(0, bodies[:last]...))
	}
}

// P23.1: more decisions than the run takes: all are answered.
func TestRecoverMoreThanSteps(t *testing.T) {
	p := program(t, "func\nreturn 0")
	for more := range 9 {
		l := slices.Concat(picks(0, 3), slices.Repeat([]record.Record{number(5)}, more))
		log := logOf(0, l, 2)
		recovers(t, fmt.Sprint(more, " more"), p, one, log+"?", 9, taper.Result{Status: taper.Halted, Steps: 3, Sums: sums(p, one, l, 3)}, l, log)
	}
}

// P23.1: decisions that can't stand where they stand: of another kind, or out of range: where the run strays is told, and they stay in the log.
func TestRecoverStrayed(t *testing.T) {
	p, l, below, steps := tour(t)
	for n, r := range l {
		want := taper.Result{Status: taper.Strayed, Steps: steps[n], Out: told(steps[n]), Sums: sums(p, two, l, steps[n])}
		for kind := record.Pick; kind <= record.Rand; kind++ {
			for _, m := range []uint64{0, r.N, uint64(below[n]), 1 << 40, record.MostN} {
				if kind == r.Kind && m < uint64(below[n]) {
					continue
				}
				other := slices.Clone(l)
				other[n] = record.Record{Kind: kind, N: m}
				want.Where = source.Unlike{At: n, Kind: r.Kind, N: below[n], Got: other[n]}
				log := logOf(0, other, 3)
				recovers(t, fmt.Sprintf("decision %d is %+v", n, other[n]), p, two, log+"Sg\x06", 99, want, other, log)
			}
		}
	}
}

// P23.1: each error of Open, which is that of a store whose power is cut: all else is zero, and nothing has changed.
func TestErrors(t *testing.T) {
	p, l, _, _ := tour(t)
	log := logOf(0, l, 4)
	for _, text := range []string{log + "S", log[:len(log)-1], "x", log[:3]} {
		for name, cut := range map[string]func(s *store.Store){"is cut": func(s *store.Store) { dead(s) }, "is to be cut": func(s *store.Store) { s.Arm(0) }} {
			s := kept(text)
			cut(s)
			x, got, err := salvage.Recover(p, two, s, 99)
			y, n, again := salvage.Resume(p, two, s, []uint64{1, 2, 3}, 4, 99)
			if err != api.ErrCut || again != api.ErrCut || got != nil || n != 0 || !s.Dead() {
				t.Errorf("%q, whose power %s: errors %d, %d, %v, %d", text, name, err, again, got, n)
			}
			tells(t, name, x, taper.Result{})
			tells(t, name, y, taper.Result{})
			stands(t, name, s, text)
			// Behind a crash it can be asked again.
			s.Crash(0, "")
			have, end, _ := readable(text)
			x, got, err = salvage.Recover(p, two, s, 99)
			tells(t, name, x, toured(t, len(have), 99))
			if err != api.OK || !slices.Equal(got, have) {
				t.Errorf("%q, behind a crash: error %d, %v", text, err, got)
			}
			stands(t, name, s, text[:end])
		}
	}
}

// P23.1: a store without power, where nothing is to be cut off, is no error.
func TestRecoverWithoutPower(t *testing.T) {
	p, l, _, _ := tour(t)
	log := logOf(0, l, 4)
	s := dead(kept(log))
	x, got, err := salvage.Recover(p, two, s, 99)
	tells(t, "without power", x, toured(t, len(l), 99))
	if err != api.OK || !slices.Equal(got, l) {
		t.Errorf("error %d, %v", err, got)
	}
	stands(t, "without power", s, log)
}

// P23.1: of a store's calls there is one, if there is something to cut off, and else none; what isn't safe is read, too, and isn't safe behind it, either.
func TestCalls(t *testing.T) {
	p, l, _, _ := tour(t)
	log := logOf(0, l, 4)
	for _, behind := range []string{"", "Sg"} {
		s := kept(log[:24]) // two segments
		s.Append(log[24:] + behind)
		s.Arm(len(behind) / 2)
		x, got, err := salvage.Recover(p, two, s, 99)
		tells(t, "what isn't safe", x, toured(t, len(l), 99))
		if err != api.OK || !slices.Equal(got, l) || s.Bytes() != log || s.Safe() != 24 || s.Dead() {
			t.Errorf("error %d, %v, %q, %d safe", err, got, s.Bytes(), s.Safe())
		}
		if s.Append("x") != api.ErrCut {
			t.Error("a call less was made")
		}
		s.Crash(0, "")
		x, got, _ = salvage.Recover(p, two, s, 99)
		tells(t, "what was safe", x, toured(t, 8, 99))
		if !slices.Equal(got, l[:8]) {
			t.Errorf("%v", got)
		}
		stands(t, "what was safe", s, log[:24])
	}
}

// P23.1: of the same store Recover answers the same, as often as one likes; K3: answers share nothing, and what is handed in stays.
func TestRecoverAgain(t *testing.T) {
	p, l, _, _ := tour(t)
	s := kept(logOf(0, l, 4) + "S")
	x, a, _ := salvage.Recover(p, two, s, 99)
	y, b, _ := salvage.Recover(p, two, s, 99)
	clear(x.Sums[:cap(x.Sums)])
	clear(x.Out[:cap(x.Out)])
	clear(a[:cap(a)])
	if !slices.Equal(b, l) {
		t.Errorf("%v", b)
	}
	tells(t, "again", y, toured(t, len(l), 99))
	again, _, _, _ := tour(t)
	if fmt.Sprint(p) != fmt.Sprint(again) {
		t.Error("the program changed")
	}
}
