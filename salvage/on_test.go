package salvage_test

import (
	"fmt"
	"math/rand"
	"slices"
	"testing"

	"shunter/api"
	"shunter/code"
	"shunter/record"
	"shunter/replay"
	"shunter/salvage"
	"shunter/sample"
	"shunter/sched"
	"shunter/store"
	"shunter/taper"
)

// done holds what Resume did against a Replay of its log, which must do it again.
func done(t *testing.T, name string, p code.Program, c sched.Config, s *store.Store, most int, x taper.Result) {
	t.Helper()
	again := replay.Replay(p, c, s.Bytes(), most)
	many, none := salvage.Sure(x, again)
	if !replay.Same(x, again) || !alike(x, again) || many != x.Steps || !none {
		t.Fatalf("%s: %+v\nnot %+v", name, again, x)
	}
}

// P23.3: ON: many programs, numbers, sizes and mosts, behind logs of runs, of spoilt ones, and of any decisions.
func TestOn(t *testing.T) {
	seen := map[int]int{}
	fresh := 0
	for seed := range int64(500) {
		r := rand.New(rand.NewSource(seed))
		p, c := sample.Program(r), sample.Config(r)
		_, l := runs(p, c, nil, sample.Numbers(r, c, r.Intn(150)), r.Intn(200))
		if l = l[:r.Intn(len(l)+1)]; len(l) > 0 && r.Intn(4) == 0 {
			l[r.Intn(len(l))] = record.Record{Kind: 1 + r.Intn(4), N: uint64(r.Intn(4))}
		}
		if r.Intn(6) == 0 {
			l = sample.Decisions(r)
		}
		name := fmt.Sprint("seed ", seed)
		s := kept(logOf(0, l, sample.Some(r, 1, 5, 400)) + noise(r, ""))
		for range 3 {
			had, _, _ := readable(s.Bytes())
			most := sample.Some(r, -1, 0, 5, 50, 300, 400)
			x := resumes(t, name, s, p, c, sample.Numbers(r, c, r.Intn(150)), sample.Some(r, 0, 1, 3, 20, 400, 999), most)
			done(t, name, p, c, s, most, x)
			if has, _, _ := readable(s.Bytes()); len(has) > len(had) {
				fresh++
			}
			seen[x.Status]++
		}
	}
	for status, n := range map[int]int{taper.Halted: 5, taper.Trapped: 5, taper.Deadlock: 100, taper.Exhausted: 100, taper.Limit: 100, taper.Strayed: 50} {
		if seen[status] < n {
			t.Errorf("status %d: %d times", status, seen[status])
		}
	}
	if fresh < 400 {
		t.Errorf("only %d times something was drawn", fresh)
	}
}

// P23.2, P23.3: several crashes one behind another: each Resume goes on behind the first decisions of what the one ahead drew; the last one's log does all of it again.
func TestCrashBehindCrash(t *testing.T) {
	broken, errors := 0, 0
	for seed := range int64(200) {
		r := rand.New(rand.NewSource(seed))
		p, c := sample.Program(r), sample.Config(r)
		name := fmt.Sprint("seed ", seed)
		s := store.New(1 << 20)
		var was []record.Record // what the run ahead drew
		sure := 0
		for range 5 {
			s.Arm(r.Intn(12) - 1)
			_, end, _ := readable(s.Bytes())
			torn := end < s.Len()
			n, size := sample.Numbers(r, c, r.Intn(80)), sample.Some(r, 1, 2, 5, 20)
			had, _, _ := readable(s.Bytes())
			if len(had) < sure || len(had) > len(was) || !slices.Equal(had, was[:len(had)]) {
				t.Fatalf("%s: %v\nnot the first %d, at least, of %v", name, had, sure, was)
			}
			x, there, err := salvage.Resume(p, c, s, n, size, 500)
			if err != api.OK {
				if errors++; !torn || err != api.ErrCut || there != 0 {
					t.Fatalf("%s: error %d, %d decisions", name, err, there)
				}
				was, sure = had, len(had)
				s.Crash(r.Intn(3), "")
				continue
			}
			whole, drawn := runs(p, c, had, n, 500)
			many, none := salvage.Sure(x, whole)
			if there != len(had) || many != x.Steps || !none {
				t.Fatalf("%s: %d decisions, not %d; %d of %d states", name, there, len(had), many, x.Steps)
			}
			if x.Status != taper.Broken {
				tells(t, name, x, whole)
				done(t, name, p, c, s, 500, x)
			} else {
				broken++
			}
			// A run that ended sooner leaves decisions that aren't drawn again.
			if was = drawn; len(drawn) < len(had) {
				was = had
			}
			safe, _, _ := readable(s.Bytes()[:s.Safe()])
			sure = len(safe)
			s.Crash(r.Intn(30)-1, noise(r, s.Bytes()[s.Safe():]))
		}
		s.Arm(-1)
		had, _, _ := readable(s.Bytes())
		x, there, err := salvage.Resume(p, c, s, sample.Numbers(r, c, 50), 3, 500)
		if err != api.OK || there != len(had) || there < sure || !slices.Equal(had, was[:there]) {
			t.Fatalf("%s: error %d, %d decisions, %d were sure", name, err, there, sure)
		}
		done(t, name, p, c, s, 500, x)
	}
	if broken < 200 || errors < 10 {
		t.Errorf("%d were broken, %d errors", broken, errors)
	}
}

// P23.3: whatever a crash left, what was recovered is what a Resume begins with.
func TestOnFromRecovered(t *testing.T) {
	x := crowd(t)
	for power := range 30 {
		for keep := range 14 {
			s, _ := x.cut(t, 5, power)
			s.Crash(keep, "")
			twin := kept(s.Bytes())
			r, l, _ := salvage.Recover(x.p, x.c, twin, x.most)
			on := resumes(t, fmt.Sprintf("cut behind %d, %d stay", power, keep), s, x.p, x.c, numbers(x.drawn[len(l):]), 5, x.most)
			many, none := salvage.Sure(r, on)
			if many != r.Steps || !none {
				t.Fatalf("cut behind %d, %d stay: %d of %d states", power, keep, many, r.Steps)
			}
			tells(t, "gone on with what it drew", on, x.whole)
			stands(t, "gone on with what it drew", s, logOf(0, x.drawn, 5))
			done(t, "gone on with what it drew", x.p, x.c, s, x.most, on)
		}
	}
}
