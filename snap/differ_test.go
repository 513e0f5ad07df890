package snap_test

import (
	"fmt"
	"slices"
	"testing"

	"shunter/api"
	"shunter/chans"
	"shunter/frame"
	"shunter/snap"
	"shunter/world"
)

// differences are the things that two views show otherwise.
func differences(a, b view) []string {
	d := &differing{}
	d.thing("how all is", a.End, b.End)
	d.thing("the number of the trap", a.Why, b.Why)
	d.thing("the clock", a.Clock, b.Clock)
	each(d, "goroutines", a.Goroutines, b.Goroutines, d.goroutine)
	each(d, "channels", a.Chans, b.Chans, d.channel)
	each(d, "locks", a.Locks, b.Locks, func(name string, a, b lock) {
		d.thing(name+"its owner", a.Owner, b.Owner)
		d.thing(name+"its waits", a.Waits, b.Waits)
	})
	d.thing("sleepers", a.Sleepers, b.Sleepers)
	d.thing("told", a.Out, b.Out)
	return d.names
}

type differing struct{ names []string }

// thing is one that is shown alone.
func (d *differing) thing(name string, a, b any) {
	if !same(a, b) {
		d.names = append(d.names, name)
	}
}

// each holds two lists against each other one by one, if they are as long.
func each[T any](d *differing, name string, a, b []T, hold func(name string, a, b T)) {
	if len(a) != len(b) {
		d.names = append(d.names, name)
		return
	}
	for i := range a {
		hold(fmt.Sprintf("%s %d: ", name, i), a[i], b[i])
	}
}

func (d *differing) goroutine(name string, a, b world.G) {
	d.thing(name+"its status", a.Status, b.Status)
	each(d, name+"frames", a.Stack, b.Stack, d.frame)
}

func (d *differing) frame(name string, a, b frame.Frame) {
	d.thing(name+"Func", a.Func, b.Func)
	d.thing(name+"At", a.At, b.At)
	d.thing(name+"Into", a.Into, b.Into)
	for i := range api.Regs {
		d.thing(fmt.Sprintf("%sregister %d", name, i), a.R[i], b.R[i])
	}
}

func (d *differing) channel(name string, a, b chans.State) {
	d.thing(name+"is it closed", a.Closed, b.Closed)
	d.thing(name+"its buffer", a.Buffer, b.Buffer)
	d.thing(name+"its senders", a.Senders, b.Senders)
	d.thing(name+"its receivers", a.Receivers, b.Receivers)
}

// The begins of functions that do something, or not, by a draw, without leaving a trace of which: behind either the register 1 is 1.
const (
	maybe2 = "rand 1 2\nif 1 4\nconst 1 1\n" // one instruction, or none: it goes on at 4
	maybe3 = "rand 1 2\nif 1 5\nconst 1 1\n" // two: at 5
)

// pair is two ways of one program, that come to worlds which differ in one thing alone.
type pair struct{ thing, text, one, other string }

func pairs() []pair {
	two := "func\nspawn 1 0 1\nspawn 1 0 1\nnop\n"
	l := []pair{
		{"how all is", "func\n" + maybe2 + "trap 0\nnop", "0=1 0", "0=0 0*3"},
		{"the number of the trap", "func\nspawn 1 0 7\nrand 1 2\nif 1 5\nconst 1 1\ntrap 3\nnop\nfunc\n" + maybe2 + "trap 4\nnop", "0 1=1 1 0=0 0*3", "0 0=1 0 1=0 1*3"},
		{"the clock", "func\nnop", "", "t"},
		{"the clock", "func\nnop", "0 t t", "t 0 t t"},
		{"goroutines", "func\n" + maybe3 + "spawn 1 0 2\nconst 2 0\nnop\nfunc\nnop", "0=1 0", "0=0 0*4"},
		{"goroutines 1: its status", "func\nspawn 1 0 1\nnop\nfunc\n" + maybe2 + "return 1\nnop", "0 1=1 1", "0 1=0 1*3"},
		{"goroutines 0: frames", "func\n" + maybe2 + "call 1 0 2\nnop\nfunc\nnop", "0=1 0", "0=0 0*3"},
		{"goroutines 1: frames 0: Func", "func\n" + maybe3 + "spawn 1 0 2\njump 6\nspawn 2 0 2\nnop\nfunc\nnop\nfunc\nnop", "0=1 0*2", "0=0 0*4"},
		{"goroutines 0: frames 0: At", "func\nnop\nnop", "0", "0*2"},
		{"goroutines 0: frames 1: At", "func\ncall 1 0 0\nfunc\nnop\nnop", "0", "0*2"},
		{"goroutines 0: frames 1: register 7", "func\ncall 1 0 0\nfunc\nrand 7 9", "0 0=3", "0 0=8"},
		{"channels 0: is it closed", "chan 1\nfunc\n" + maybe2 + "close 0\nnop", "0=1 0", "0=0 0*3"},
		{"channels 1: is it closed", "chan 1\nchan 2\nfunc\n" + maybe2 + "close 1\nnop", "0=1 0", "0=0 0*3"},
		{"channels 0: its buffer", "chan 1\nfunc\nrand 1 9\nsend 0 1\nconst 1 0", "0=3 0*2", "0=4 0*2"},
		{"channels 0: its buffer", "chan 2\nfunc\nrand 1 9\nsend 0 1\nrand 1 9\nsend 0 1\nconst 1 0", "0=3 0 0=4 0*2", "0=4 0 0=3 0*2"},
		{"channels 0: its buffer", "chan 1\nfunc\n" + maybe2 + "send 0 2\nnop", "0=1 0", "0=0 0*3"},
		{"channels 0: its senders", "chan 0\n" + two + "func\nsend 0 0", "0*2 1 2", "0*2 2 1"},
		{"channels 0: its receivers", "chan 0\n" + two + "func\nrecv 0 1 2", "0*2 1 2", "0*2 2 1"},
		{"channels 1: its receivers", "chan 0\nchan 0\nrecv 1 1\n" + two + "func\nselect 0 1 2", "0*2 1 2", "0*2 2 1"},
		{"locks 0: its owner", "locks 1\nfunc\n" + maybe2 + "lock 0\nnop", "0=1 0", "0=0 0*3"},
		{"locks 1: its owner", "locks 2\n" + two + "func\n" + maybe2 + "lock 1\nnop", "0*2 1=0 1*3 2=1 2", "0*2 2=0 2*3 1=1 1"},
		{"locks 0: its waits", "locks 1\n" + two + "lock 0\nfunc\nlock 0", "0*4 1 2", "0*4 2 1"},
		{"sleepers", two + "func\nconst 1 5\nsleep 1", "0*2 1*2 2*2", "0*2 2*2 1*2"},                               // who
		{"sleepers", "func\nconst 1 5\nsleep 1", "0*2 t", "t 0*2"},                                                 // until when
		{"sleepers", "func\nconst 1 1\nsleep 1\njump 0", "t 0*2", "0*2 t 0*3"},                                     // with which number
		{"sleepers", two + "func\nconst 1 5\nsleep 1", "0*2 1*2 t 2*2 t", "0*2 t 1*2 2*2 t"},                       // one of several
		{"told", "func\nrand 1 9\nemit 1\nconst 1 0", "0=3 0*2", "0=4 0*2"},                                        // what
		{"told", "func\n" + maybe2 + "emit 2\nnop", "0=1 0", "0=0 0*3"},                                            // how much
		{"told", "func\nrand 1 9\nemit 1\nrand 1 2\njump 0", "0=3 0 0=0 0 0=4 0 0=0 0", "0=4 0 0=0 0 0=3 0 0=0 0"}, // in which order
	}
	for i := range api.Regs {
		l = append(l, pair{fmt.Sprint("goroutines 0: frames 0: register ", i), fmt.Sprintf("func\nrand %d 9", i), "0=3", "0=7"})
	}
	return l
}

// P19.2: two worlds of one program, that differ in one thing that is shown, have other numbers.
func TestWorldsThatDifferInOneThing(t *testing.T) {
	for _, p := range pairs() {
		a, b := after(t, p.text, p.one), after(t, p.text, p.other)
		const channels, locks = 2, 2
		if d := differences(look(a, channels, locks), look(b, channels, locks)); !slices.Equal(d, []string{p.thing}) {
			t.Errorf("%q: %q differ, not %q", p.text, d, p.thing)
		}
		l, m := snap.World(a, channels, locks), snap.World(b, channels, locks)
		if slices.Equal(l, m) || snap.Digest(l) == snap.Digest(m) {
			t.Errorf("%q, %s: the same numbers: %v", p.text, p.thing, l)
		}
		if again := snap.World(after(t, p.text, p.one), channels, locks); !slices.Equal(l, again) {
			t.Errorf("%q: once %v, then %v", p.text, l, again)
		}
	}
}
