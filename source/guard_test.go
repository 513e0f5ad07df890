package source_test

import (
	"errors"
	"runtime"
	"strings"
	"testing"

	"shunter/record"
	"shunter/source"
)

// guarded holds how a run ended against how it must.
func guarded(t *testing.T, name string, run func(), end int, where source.Unlike) {
	t.Helper()
	if got, x := source.Guard(run); got != end || x != where {
		t.Errorf("Guard of %s: %d, %+v, not %d, %+v", name, got, x, end, where)
	}
}

// P17.1
func TestEnds(t *testing.T) {
	if ends := [3]int{source.Well, source.Spent, source.Strayed}; ends != [3]int{0, 1, 2} {
		t.Errorf("ends: %v", ends)
	}
}

// P17.1
func TestGuard(t *testing.T) {
	ran := 0
	guarded(t, "nothing", func() {}, source.Well, source.Unlike{})
	guarded(t, "one that ends", func() { ran++ }, source.Well, source.Unlike{})
	if ran != 1 {
		t.Errorf("it ran %d times", ran)
	}
	guarded(t, "a Dry", func() { panic(source.Dry{}) }, source.Spent, source.Unlike{})
	for _, u := range []source.Unlike{
		{},
		{At: 1},
		{At: 7, Kind: record.Case, N: 1 << 40, Got: number(1<<64 - 1)},
		{At: -1, Kind: -2, N: -3, Got: record.Record{Kind: -4, N: 5}},
	} {
		guarded(t, "an Unlike", func() { panic(u) }, source.Strayed, u)
	}
}

// P17.1: what a run did up to a draw that panics is done, what stands behind it isn't.
func TestGuardOfDraws(t *testing.T) {
	s := source.Chain([]record.Record{pick(3), victim(1)}, []uint64{6, 7})
	steps := 0
	pickAll := func() {
		for range 4 {
			s.Draw(record.Pick, 4)
			steps++
		}
	}
	guarded(t, "picks", pickAll, source.Strayed, source.Unlike{At: 1, Kind: record.Pick, N: 4, Got: victim(1)})
	guarded(t, "picks once more", pickAll, source.Strayed, source.Unlike{At: 1, Kind: record.Pick, N: 4, Got: victim(1)})
	guarded(t, "a victim", func() { s.Draw(record.Victim, 2) }, source.Well, source.Unlike{})
	guarded(t, "picks to the end", pickAll, source.Spent, source.Unlike{})
	guarded(t, "picks behind the end", pickAll, source.Spent, source.Unlike{})
	guarded(t, "nothing", func() {}, source.Well, source.Unlike{})
	if steps != 3 {
		t.Errorf("%d picks", steps)
	}
	shows(t, s, 0, pick(3), victim(1), pick(2), pick(3))
}

// P17.1: what run itself catches doesn't reach Guard.
func TestGuardOfARunThatCatches(t *testing.T) {
	s := source.Oracle(nil)
	catches := func() {
		if x := caught(func() { s.Draw(record.Pick, 4) }); x != (source.Dry{}) {
			t.Errorf("caught %v", x)
		}
	}
	guarded(t, "one that catches", catches, source.Well, source.Unlike{})
	other := func() {
		defer func() {
			recover()
			panic(source.Unlike{At: 4})
		}()
		s.Draw(record.Pick, 4)
	}
	guarded(t, "one that panics otherwise", other, source.Strayed, source.Unlike{At: 4})
}

// fault is an error of the test's own.
type fault struct{ at int }

func (f *fault) Error() string { return "a fault" }

// P17.1: anything else comes out of Guard as it is, also what only looks like what a draw panics with.
func TestGuardOfOtherPanics(t *testing.T) {
	plain := errors.New("plain")
	for _, x := range []any{
		"other", "", 0, source.Spent, source.Strayed, 3.5, true, plain, &fault{3},
		&source.Dry{}, &source.Unlike{At: 3}, struct{}{}, number(3), [1]source.Dry{}, struct{ source.Unlike }{},
	} {
		answered := false
		got := caught(func() {
			source.Guard(func() { panic(x) })
			answered = true
		})
		if got != x || answered {
			t.Errorf("Guard of a panic with %#v: panic %#v", x, got)
		}
	}
}

// P17.1: errors of the language's own come out of Guard as they are.
func TestGuardOfErrorsOfTheLanguage(t *testing.T) {
	var none *fault
	var table map[int]int
	var l []int
	var x any = "text"
	zero := 0
	for name, run := range map[string]func(){
		"nil pointer":     func() { none.at++ },
		"nil map":         func() { table[3] = 4 },
		"called with nil": func() { panic(nil) },
		"out of range":    func() { l[3]++ },
		"divide by zero":  func() { zero = 1 / zero },
		"interface conv":  func() { zero = x.(int) },
		"slice bounds":    func() { l = l[2:zero] },
	} {
		var within any
		tells := func() {
			defer func() {
				within = recover()
				panic(within)
			}()
			run()
		}
		x := caught(func() { source.Guard(tells) })
		if err, ok := x.(runtime.Error); !ok || !strings.Contains(err.Error(), name) || x != within {
			t.Errorf("%s: panic %v, not %v", name, x, within)
		}
	}
	if err, ok := caught(func() { source.Guard(nil) }).(runtime.Error); !ok || !strings.Contains(err.Error(), "nil pointer") {
		t.Errorf("a nil run: panic %v", err)
	}
}

// P17.1: a draw of a source that panics in what sees it: Guard hands that on, too.
func TestGuardOfAWatcherThatPanics(t *testing.T) {
	s := source.Oracle([]uint64{4, 5})
	s.Watch(func(r record.Record) { panic(r) })
	if x := caught(func() { source.Guard(func() { s.Draw(record.Pick, 9) }) }); x != pick(4) {
		t.Errorf("panic %v", x)
	}
	shows(t, s, 1, pick(4))
}

// P17.1: the inner one catches; what it hands on comes through both.
func TestGuardWithinGuard(t *testing.T) {
	s := source.Tape([]record.Record{pick(3)})
	where := source.Unlike{Kind: record.Pick, N: 2, Got: pick(3)}
	behind := false
	guarded(t, "a Guard of what strays", func() {
		guarded(t, "what strays", func() { s.Draw(record.Pick, 2) }, source.Strayed, where)
		guarded(t, "what ends", func() { s.Draw(record.Pick, 4) }, source.Well, source.Unlike{})
		guarded(t, "what is dry", func() { s.Draw(record.Pick, 4) }, source.Spent, source.Unlike{})
		behind = true
	}, source.Well, source.Unlike{})
	guarded(t, "a Guard and a Dry", func() {
		guarded(t, "an Unlike", func() { panic(where) }, source.Strayed, where)
		panic(source.Dry{})
	}, source.Spent, source.Unlike{})
	guarded(t, "a Guard and an Unlike", func() {
		guarded(t, "a Dry", func() { s.Draw(record.Pick, 2) }, source.Spent, source.Unlike{})
		panic(where)
	}, source.Strayed, where)
	if x := caught(func() { source.Guard(func() { source.Guard(func() { panic("other") }) }) }); x != "other" || !behind {
		t.Errorf("panic %v, %t", x, behind)
	}
}

// P17.1: a Guard in what is deferred, while a draw panics, leaves that panic to the outer one.
func TestGuardWhileADrawPanics(t *testing.T) {
	s := source.Oracle(nil)
	guarded(t, "a draw with a deferred Guard", func() {
		defer guarded(t, "nothing, deferred", func() {}, source.Well, source.Unlike{})
		defer func() {
			guarded(t, "an Unlike, deferred", func() { panic(source.Unlike{At: 3}) }, source.Strayed, source.Unlike{At: 3})
		}()
		s.Draw(record.Pick, 2)
	}, source.Spent, source.Unlike{})
}

// P17.1: a run that ends its own goroutine ends it, without a panic.
func TestGuardOfAGoroutineThatEnds(t *testing.T) {
	done := make(chan bool)
	go func() {
		defer close(done)
		source.Guard(runtime.Goexit)
		t.Error("Guard came back")
	}()
	<-done
}
