package replay_test

import (
	"fmt"
	"math"
	"slices"
	"testing"

	"shunter/record"
	"shunter/replay"
	"shunter/segment"
	"shunter/source"
	"shunter/taper"
)

// P22.1: the document's example.
func TestX(t *testing.T) {
	p := program(t, "func\nreturn 0")
	tells(t, "x", replay.Replay(p, one, "x", 9), malformed)
	tells(t, "nothing", replay.Replay(p, one, "", 9), taper.Result{Status: taper.Exhausted})
	x, n := replay.Prefix(p, one, "x", 9)
	tells(t, "x, its prefix", x, taper.Result{Status: taper.Exhausted})
	y, m := replay.Prefix(p, one, "", 9)
	tells(t, "nothing, its prefix", y, taper.Result{Status: taper.Exhausted})
	if n != 0 || m != 0 {
		t.Errorf("%d and %d decisions", n, m)
	}
}

// P22.1: runs of each end: Run, and Replay and Prefix of logs with that many decisions a segment.
func TestEnds(t *testing.T) {
	for _, x := range []struct {
		text   string
		l      []record.Record
		most   int
		status int
		trap   int
		steps  int
		out    []int64
	}{
		{"func\nemit 0\nreturn 0", picks(0, 9), 99, taper.Halted, 0, 4, []int64{0}},
		{"func\nreturn 0", picks(0, 3), 3, taper.Halted, 0, 3, nil},
		{"func\ntrap 9", picks(0, 3), 99, taper.Trapped, 9, 3, nil},
		{"chan 0\nfunc\nclose 0\nclose 0", picks(0, 5), 99, taper.Trapped, -2, 4, nil},
		{"chan 0\nfunc\nrecv 0 1 2", picks(0, 3), 99, taper.Deadlock, 0, 3, nil},
		{"func\njump 0", picks(0, 7), 99, taper.Exhausted, 0, 7, nil},
		{"func\nrand 1 3\njump 0", picks(0, 3), 99, taper.Exhausted, 0, 2, nil},
		{"func\njump 0", picks(0, 7), 5, taper.Limit, 0, 5, nil},
		{"func\njump 0", picks(0, 7), 7, taper.Limit, 0, 7, nil},
	} {
		p := program(t, x.text)
		want := taper.Result{Status: x.status, Trap: x.trap, Steps: x.steps, Out: x.out, Sums: sums(p, one, x.l, x.steps)}
		tells(t, x.text, replay.Run(p, one, x.l, x.most), want)
		for _, size := range []int{1, 2, 3, 400} {
			log := logOf(x.l, size)
			tells(t, x.text+", a log", replay.Replay(p, one, log, x.most), want)
			got, n := replay.Prefix(p, one, log, x.most)
			tells(t, x.text+", a log's prefix", got, want)
			if n != len(x.l) {
				t.Errorf("%q: %d decisions, not %d", x.text, n, len(x.l))
			}
		}
	}
}

// P22.1: most: none, below 0, fewer, as many, and more than there are steps; Malformed is told by any.
func TestMost(t *testing.T) {
	p, l, _, _ := tour(t)
	log := logOf(l, 4)
	for _, most := range []int{math.MinInt, -1, 0, 1, 5, 11, 12, 13, 1 << 20, math.MaxInt} {
		steps := min(max(most, 0), 12)
		want := taper.Result{Status: taper.Limit, Steps: steps, Out: told(steps), Sums: sums(p, two, l, steps)}
		if most > 12 {
			want.Status = taper.Exhausted
		}
		name := fmt.Sprint("at most ", most)
		tells(t, name, replay.Run(p, two, l, most), want)
		tells(t, name, replay.Replay(p, two, log, most), want)
		x, n := replay.Prefix(p, two, log+"Sg", most)
		tells(t, name, x, want)
		tells(t, name+", malformed", replay.Replay(p, two, log+"Sg", most), malformed)
		if n != len(l) {
			t.Errorf("%s: %d decisions", name, n)
		}
	}
}

// behind holds what becomes of a log with bytes behind its first decisions: it is none; its prefix has just these.
func behind(t *testing.T, name, log string, l []record.Record) {
	t.Helper()
	p, _, _, _ := tour(t)
	tells(t, name, replay.Replay(p, two, log, 99), malformed)
	x, n := replay.Prefix(p, two, log, 99)
	tells(t, name+", its prefix", x, replay.Run(p, two, l, 99))
	if n != len(l) {
		t.Errorf("%s: %d decisions, not %d", name, n, len(l))
	}
}

// P22.1: a log that is cut anywhere is one just where a segment ends; its prefix has the decisions of the whole ones.
func TestCutAnywhere(t *testing.T) {
	p, l, _, _ := tour(t)
	for _, size := range []int{1, 3, 5, 400} {
		log := logOf(l, size)
		whole, from := 0, 0 // of the log's bytes, and which decisions these are
		for at := range len(log) + 1 {
			if _, _, end, err := segment.Open(log[:at], whole); err == 0 {
				whole, from = end, min(from+size, len(l))
			}
			name := fmt.Sprintf("%d a segment, cut at %d", size, at)
			if at > whole {
				behind(t, name, log[:at], l[:from])
				continue
			}
			tells(t, name, replay.Replay(p, two, log[:at], 99), replay.Run(p, two, l[:from], 99))
		}
		if whole != len(log) || from != len(l) {
			t.Errorf("%d a segment: %d of %d bytes", size, whole, len(log))
		}
	}
}

// P22.1: bytes behind the last segment: such as begin one, are one of another number, have another sum, or a body that isn't decisions to its end.
func TestBytesBehind(t *testing.T) {
	_, l, _, _ := tour(t)
	log := logOf(l, 6) // three segments
	frame := func(seq uint64, body string) string {
		text, _ := segment.Frame(seq, body)
		return text
	}
	spoilt := []byte(frame(3, "\x04"))
	spoilt[len(spoilt)-1]++
	for name, text := range map[string]string{
		"a byte 0": "\x00", "a line's end": "\n", "S": "S", "Sg": "Sg", "a number": "Sg\x03", "a length": "Sg\x03\x00",
		"the first number": frame(0, "\x04"), "the last number": frame(2, "\x04"), "a number left out": frame(4, "\x04"), "a number left out, empty": frame(4, ""),
		"another sum": string(spoilt), "half a decision": frame(3, "\x80"), "a decision and a half": frame(3, "\x04\x80"), "a decision by too many bytes": frame(3, "\x84\x00"),
		"a piece of one": frame(3, "\x04")[:8], "the log once more": log,
	} {
		behind(t, name, log+text, l)
		// And what comes behind that doesn't matter.
		behind(t, name+", and one more", log+text+frame(3, "\x04"), l)
	}
	behind(t, "no log", "\x00"+log, nil)
	behind(t, "a byte first", " "+log, nil)
	behind(t, "the second one first", frame(1, ""), nil)
}

// P22.1: one byte that is another, wherever it is: the decisions of the segments ahead of it are left.
func TestAnotherByte(t *testing.T) {
	_, l, _, _ := tour(t)
	log, size := logOf(l, 5), 5
	first := []int{0, 13, 26, 39} // segments of five decisions, each of a byte, and 8 bytes beside
	for at := range len(log) {
		segments := 0
		for segments+1 < len(first) && first[segments+1] <= at {
			segments++
		}
		for _, x := range []byte{1, 2, 4, 16, 128, 255} {
			b := []byte(log)
			b[at] ^= x
			behind(t, fmt.Sprintf("byte %d by %d", at, x), string(b), l[:segments*size])
		}
	}
}

// P22.1: segments without decisions are some of the log, at its begin, within it, at its end, and alone.
func TestSegmentsWithoutDecisions(t *testing.T) {
	p, l, _, _ := tour(t)
	half := len(l) / 2
	a, b := record.Bytes(l[:half]...), record.Bytes(l[half:]...)
	for _, bodies := range [][]string{{""}, {"", "", ""}, {a, b}, {"", a, b}, {a, "", b}, {a, b, ""}, {"", "", a, "", "", b, "", ""}, {a, ""}, {"", a}} {
		log, ends := framed(bodies...)
		have := 0
		for _, body := range bodies {
			r, _ := record.All(body)
			have += len(r)
		}
		name := fmt.Sprintf("%q", bodies)
		want := replay.Run(p, two, l[:have], 99)
		tells(t, name, replay.Replay(p, two, log, 99), want)
		x, n := replay.Prefix(p, two, log, 99)
		tells(t, name, x, want)
		if n != have {
			t.Errorf("%s: %d decisions, not %d", name, n, have)
		}
		behind(t, name+", and a byte", log+"\x00", l[:have])
		// Without its last byte the last one is torn, also if it is empty.
		last, _ := record.All(bodies[len(bodies)-1])
		behind(t, name+", torn", log[:ends[len(ends)-1]-1], l[:have-len(last)])
	}
}

// P22.1: Prefix tells how many decisions can be read, be they taken or not.
func TestDecisionsThatAreNotTaken(t *testing.T) {
	p := program(t, "func\nreturn 0")
	for more := range 9 {
		log := logOf(slices.Concat(picks(0, 3), slices.Repeat([]record.Record{number(5)}, more)), 2)
		x, n := replay.Prefix(p, one, log+"?", 9)
		tells(t, "more than it takes", x, taper.Result{Status: taper.Halted, Steps: 3, Sums: sums(p, one, picks(0, 3), 3)})
		if n != 3+more {
			t.Errorf("%d decisions, not %d", n, 3+more)
		}
		tells(t, "more than it takes", replay.Replay(p, one, log, 9), x)
	}
}

// P22.1: decisions of each kind that can't stand where they stand: of another kind, also in range, or out of it.
func TestStrayed(t *testing.T) {
	p, l, below, steps := tour(t)
	for n, r := range l {
		want := taper.Result{Status: taper.Strayed, Steps: steps[n], Out: told(steps[n]), Sums: sums(p, two, l, steps[n])}
		for kind := record.Pick; kind <= record.Rand; kind++ {
			for _, m := range []uint64{0, r.N, uint64(below[n]) - 1, uint64(below[n]), uint64(below[n]) + 1, 1 << 40, 1 << 61, record.MostN} {
				got := record.Record{Kind: kind, N: m}
				if kind == r.Kind && m < uint64(below[n]) {
					continue
				}
				other := slices.Clone(l)
				other[n] = got
				want.Where = source.Unlike{At: n, Kind: r.Kind, N: below[n], Got: got}
				name := fmt.Sprintf("decision %d is %+v", n, got)
				tells(t, name, replay.Run(p, two, other, 99), want)
				tells(t, name, replay.Replay(p, two, logOf(other, 3), 99), want)
				x, many := replay.Prefix(p, two, logOf(other, 3)+"S", 99)
				tells(t, name, x, want)
				if many != len(l) {
					t.Errorf("%s: %d decisions", name, many)
				}
			}
		}
	}
}

// P22.1: the document's example: a Pick of 5, where there are two machines.
func TestPickOfFive(t *testing.T) {
	p := program(t, "func\nreturn 0")
	want := taper.Result{Status: taper.Strayed, Where: source.Unlike{Kind: record.Pick, N: 3, Got: pick(5)}}
	tells(t, "a pick of 5", replay.Replay(p, two, logOf(picks(5, 1), 1), 9), want)
	tells(t, "a pick of 5, at most 0", replay.Replay(p, two, logOf(picks(5, 1), 1), 0), taper.Result{Status: taper.Limit})
}

// K3: what is handed in stays as it is, and isn't kept; what was told stays, and shares nothing.
func TestAnswersStay(t *testing.T) {
	p, l, _, _ := tour(t)
	still := slices.Clone(l)
	a, b := replay.Run(p, two, l, 99), replay.Run(p, two, l, 99)
	clear(a.Sums[:cap(a.Sums)])
	clear(a.Out[:cap(a.Out)])
	tells(t, "the other one", b, replay.Run(p, two, l, 99))
	again, _, _, _ := tour(t)
	if !slices.Equal(l, still) || fmt.Sprint(p) != fmt.Sprint(again) {
		t.Error("what was handed in changed")
	}
	x, y := replay.Run(p, two, l, 99), replay.Run(p, two, l, 99)
	x.Sums[3]++
	replay.Unlike(x, y)
	replay.Same(x, y)
	y.Sums[3]++
	tells(t, "what was held against each other", x, y)
}
