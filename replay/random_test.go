package replay_test

import (
	"fmt"
	"math/rand"
	"slices"
	"testing"

	"shunter/code"
	"shunter/logbook"
	"shunter/record"
	"shunter/replay"
	"shunter/sample"
	"shunter/sched"
	"shunter/snap"
	"shunter/source"
	"shunter/store"
	"shunter/taper"
	"shunter/trace"
)

// recorded is a Record, its log, and the decisions of that.
func recorded(p code.Program, c sched.Config, numbers []uint64, most, size int) (taper.Result, string, []record.Record) {
	s := store.New(1 << 20)
	b, _, _ := logbook.Open(s, size)
	x := taper.Record(p, c, numbers, most, b)
	l, _, _ := logbook.Read(s.Bytes())
	return x, s.Bytes(), l
}

// P22.2: AGAIN: many programs, configs, numbers, mosts and sizes of segments: Replay of a Record's log is the Same, and tells no error, and no place where it strayed.
func TestAgain(t *testing.T) {
	seen := map[int]int{}
	for seed := range int64(250) {
		r := rand.New(rand.NewSource(seed))
		p, c := sample.Program(r), sample.Config(r)
		numbers, most := sample.Numbers(r, c, r.Intn(500)), r.Intn(600)-5
		x, log, l := recorded(p, c, numbers, most, sample.Some(r, 1, 2, 7, 100, 400))
		again := replay.Replay(p, c, log, most)
		if !replay.Same(x, again) || !alike(x, again) || replay.Unlike(x, again) != -1 {
			t.Fatalf("seed %d: %+v\nnot %+v", seed, again, x)
		}
		tells(t, "its decisions", replay.Run(p, c, l, most), x)
		prefix, n := replay.Prefix(p, c, log, most)
		tells(t, "its prefix", prefix, x)
		if n != len(l) {
			t.Fatalf("seed %d: %d decisions, not %d", seed, n, len(l))
		}
		seen[x.Status]++
	}
	for status, n := range map[int]int{taper.Halted: 3, taper.Trapped: 3, taper.Deadlock: 20, taper.Exhausted: 30, taper.Limit: 50} {
		if seen[status] < n {
			t.Errorf("status %d: %d times", status, seen[status])
		}
	}
}

// P22.2: with other numbers of steps a Replay goes as far, and no further than was recorded.
func TestAgainByOtherMosts(t *testing.T) {
	for seed := range int64(60) {
		r := rand.New(rand.NewSource(seed))
		p, c := sample.Program(r), sample.Config(r)
		x, log, _ := recorded(p, c, sample.Numbers(r, c, 150), 100, 10)
		for _, most := range []int{0, 1, r.Intn(100), x.Steps, x.Steps + 1, 1000} {
			y := replay.Replay(p, c, log, most)
			want := x
			switch {
			case most < x.Steps || most == x.Steps && x.Status == taper.Exhausted:
				want.Status, want.Trap = taper.Limit, 0
			case x.Status == taper.Limit && most > x.Steps:
				want.Status = taper.Exhausted
			}
			want.Steps = min(most, x.Steps)
			want.Sums = x.Sums[:want.Steps]
			if want.Out = y.Out; len(y.Out) > len(x.Out) || !slices.Equal(y.Out, x.Out[:len(y.Out)]) {
				t.Fatalf("seed %d, at most %d: told %v, not the first of %v", seed, most, y.Out, x.Out)
			}
			tells(t, fmt.Sprintf("seed %d, at most %d", seed, most), y, want)
		}
	}
}

// P22.3: PREFIX: each number of a Record's first decisions, also amid a step: the first states, and then nothing is left.
func TestPrefix(t *testing.T) {
	amid := 0
	for seed := range int64(70) {
		r := rand.New(rand.NewSource(seed))
		p, c := sample.Program(r), sample.Config(r)
		most := 20 + r.Intn(80)
		x, _, l := recorded(p, c, sample.Numbers(r, c, r.Intn(100)), most, 10)
		before := 0
		for n := range len(l) {
			y := replay.Run(p, c, l[:n], most)
			fits := y.Status == taper.Exhausted && y.Steps <= x.Steps && len(y.Sums) == y.Steps && slices.Equal(y.Sums, x.Sums[:y.Steps])
			if !fits || y.Where != (source.Unlike{}) || replay.Unlike(x, y) != -1 || y.Steps < before || y.Steps > before+1 {
				t.Fatalf("seed %d, %d of %d decisions: %+v\nof %+v", seed, n, len(l), y, x)
			}
			if n > 0 && y.Steps == before {
				amid++
			}
			before = y.Steps
			whole, many := replay.Prefix(p, c, logOf(l[:n], 7)+"Sg", most)
			tells(t, "a log of these", whole, y)
			if many != n {
				t.Fatalf("seed %d: %d decisions, not %d", seed, many, n)
			}
		}
	}
	if amid < 100 {
		t.Errorf("amid a step: %d times", amid)
	}
}

// spoil is another log: some of its decisions are others, left out, or there twice.
func spoil(r *rand.Rand, l []record.Record) []record.Record {
	l = slices.Clone(l)
	for range r.Intn(3) {
		if len(l) == 0 {
			break
		}
		i := r.Intn(len(l))
		switch r.Intn(5) {
		case 0:
			l = slices.Delete(l, i, i+1)
		case 1:
			l = slices.Insert(l, i, l[r.Intn(len(l))])
		case 2:
			l[i].N = r.Uint64() >> (2 + r.Intn(62))
		case 3:
			l[i] = record.Record{Kind: 1 + r.Intn(4), N: uint64(r.Intn(3))}
		default:
			l[i].N = uint64(r.Intn(3))
		}
	}
	return l
}

// legal holds what a Replay told against goroutines alone: the moves that its decisions make can all be made by a world of its own, which shows the same numbers.
func legal(t *testing.T, name string, p code.Program, c sched.Config, l []record.Record, most int, got taper.Result) {
	t.Helper()
	tape := source.Tape(l)
	s := sched.New(p, c, tape)
	tr, end, where := trace.Run(s, tape, most, nil)
	w, made := trace.Follow(p, tr.Moves)
	if made != len(tr.Moves) || s.Steps() != got.Steps || len(got.Sums) != got.Steps || where != got.Where || !slices.Equal(w.Out(), got.Out) {
		t.Fatalf("%s: %d of %d moves, %d steps, strayed at %+v, told %v\n%+v", name, made, len(tr.Moves), s.Steps(), where, w.Out(), got)
	}
	numbers := slices.Concat(snap.Queues(s), snap.World(w, len(p.Chans), p.Locks))
	if got.Steps > 0 && got.Sums[got.Steps-1] != snap.Digest(numbers) {
		t.Fatalf("%s: the last state is another: %+v", name, got)
	}
	how, why := w.End()
	ended := []int{taper.Limit, taper.Halted, taper.Trapped}[how]
	switch {
	case end == source.Spent:
		ended = taper.Exhausted
	case end == source.Strayed:
		ended = taper.Strayed
	case w.Stuck():
		ended = taper.Deadlock
	}
	if got.Status != ended || got.Trap != why || got.Err != 0 {
		t.Fatalf("%s: ended %d, %d\n%+v", name, ended, why, got)
	}
}

// P22.4: LEGAL: decisions of a run, such as are spoilt, and any that come to one's mind.
func TestLegal(t *testing.T) {
	seen := map[int]int{}
	for seed := range int64(600) {
		r := rand.New(rand.NewSource(seed))
		p, c := sample.Program(r), sample.Config(r)
		_, _, l := recorded(p, c, sample.Numbers(r, c, r.Intn(250)), 300, 100)
		if l = spoil(r, l); r.Intn(10) == 0 {
			l = sample.Decisions(r)
		}
		most := r.Intn(300)
		x := replay.Replay(p, c, logOf(l, sample.Some(r, 1, 3, 100)), most)
		legal(t, fmt.Sprint("seed ", seed), p, c, l, most, x)
		seen[x.Status]++
	}
	for status, n := range map[int]int{taper.Halted: 4, taper.Trapped: 4, taper.Deadlock: 30, taper.Exhausted: 100, taper.Limit: 100, taper.Strayed: 100} {
		if seen[status] < n {
			t.Errorf("status %d: %d times", status, seen[status])
		}
	}
}

// P22.1, P22.4: any bytes as segments' bodies, and any bytes at all: malformed, or a run that there is.
func TestAnyBytes(t *testing.T) {
	seen := map[int]int{}
	for seed := range int64(3000) {
		r := rand.New(rand.NewSource(seed))
		p, c := sample.Program(r), sample.Config(r)
		var bodies []string
		for range r.Intn(4) {
			b := make([]byte, r.Intn(20))
			for i := range b {
				b[i] = sample.Some(r, byte(0), 0, 4, 4, 8, 1, byte(r.Intn(256)))
			}
			bodies = append(bodies, string(b))
		}
		log, _ := framed(bodies...)
		if b := []byte(log); r.Intn(4) == 0 && len(b) > 0 {
			b[r.Intn(len(b))] ^= byte(1 + r.Intn(255))
			log = string(b)
		}
		most := r.Intn(60)
		x := replay.Replay(p, c, log, most)
		l, end, _ := logbook.Read(log)
		seen[x.Status]++
		y, n := replay.Prefix(p, c, log, most)
		legal(t, fmt.Sprint("seed ", seed), p, c, l, most, y)
		if n != len(l) {
			t.Fatalf("seed %d: %d decisions, not %d", seed, n, len(l))
		}
		if end < len(log) {
			y = malformed
		}
		tells(t, fmt.Sprint("seed ", seed), x, y)
	}
	for status, n := range map[int]int{taper.Exhausted: 100, taper.Limit: 50, taper.Malformed: 100, taper.Strayed: 100} {
		if seen[status] < n {
			t.Errorf("status %d: %d times", status, seen[status])
		}
	}
}
