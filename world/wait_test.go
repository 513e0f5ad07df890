package world_test

import (
	"fmt"
	"math"
	"slices"
	"testing"

	"shunter/chans"
	"shunter/record"
	"shunter/world"
)

// first and last are draws.
func first(kind, n int) int { return 0 }
func last(kind, n int) int  { return n - 1 }

// channel holds a channel against what it should be.
func channel(t *testing.T, w *world.World, i int, want chans.State) {
	t.Helper()
	if got := w.Chan(i); fmt.Sprint(got) != fmt.Sprint(want) {
		t.Errorf("channel %d: %+v, not %+v", i, got, want)
	}
}

// P16.1: sends and receives that go on at once, with a buffer.
func TestSendAndRecvAtOnce(t *testing.T) {
	w := start(t, "chan 2\nfunc\nconst 1 7\nconst 2 8\nsend 0 2\nsend 0 1\nrecv 0 3 4\nrecv 0 5 5\nnop")
	run(t, w, 0, 0)
	effect(t, w, 0, true)
	effect(t, w, 0, true)
	channel(t, w, 0, chans.State{Buffer: []int64{8, 7}})
	effect(t, w, 0, true)
	at(t, w, 0, 5, 0, 7, 8, 8, 1)
	channel(t, w, 0, chans.State{Buffer: []int64{7}})
	// First comes B, then C.
	effect(t, w, 0, true)
	at(t, w, 0, 6, 0, 7, 8, 8, 1, 1)
	channel(t, w, 0, chans.State{})
}

// P16.1: a receive from a closed channel: what is there, then 0 and 0.
func TestRecvOfClosed(t *testing.T) {
	w := start(t, "chan 1\nfunc\nconst 1 7\nconst 3 -1\nconst 4 -1\nconst 5 -1\nsend 0 1\nclose 0\nrecv 0 3 4\nrecv 0 4 3\nrecv 0 5 5")
	for range 6 {
		effect(t, w, 0, true)
	}
	channel(t, w, 0, chans.State{Buffer: []int64{7}, Closed: true})
	effect(t, w, 0, true)
	at(t, w, 0, 7, 0, 7, 0, 7, 1, -1)
	effect(t, w, 0, true)
	at(t, w, 0, 8, 0, 7, 0, 0, 0, -1)
	effect(t, w, 0, true)
	at(t, w, 0, 9, 0, 7)
	channel(t, w, 0, chans.State{Closed: true})
}

// P16.1: who waits to receive: the eldest first, with the number and 1, wherever its registers are.
func TestWaitToReceive(t *testing.T) {
	for _, room := range []int{0, 1, 16} {
		w := start(t, fmt.Sprintf("chan 0\nchan %d\nfunc\nspawn 1 7 0\nspawn 2 7 0\nspawn 3 7 0\nconst 1 50\nconst 2 60\nsend 1 1\nsend 1 2\nsend 1 1\nnop\nfunc\nconst 4 9\nrecv 1 3 4\nnop\nfunc\nrecv 1 0 7\nfunc\nrecv 1 6 6", room))
		run(t, w, 0, 0, 0, 0, 0, 1)
		effect(t, w, 3, false)
		is(t, w, 3, world.Waiting)
		at(t, w, 3, 1, 0)
		effect(t, w, 1, false)
		effect(t, w, 2, false)
		channel(t, w, 1, chans.State{Receivers: []chans.Wait{{G: 3}, {G: 1}, {G: 2}}})
		channel(t, w, 0, chans.State{})
		effect(t, w, 0, true, 3)
		is(t, w, 3, world.Ready)
		is(t, w, 1, world.Waiting)
		// First comes B, then C.
		at(t, w, 3, 1, 0, 0, 0, 0, 0, 0, 1)
		effect(t, w, 0, true, 1)
		at(t, w, 1, 2, 0, 0, 0, 60, 1)
		channel(t, w, 1, chans.State{Receivers: []chans.Wait{{G: 2}}})
		effect(t, w, 0, true, 2)
		at(t, w, 2, 1, 50, 0, 0, 0, 0, 0, 0, 1)
		channel(t, w, 1, chans.State{})
		at(t, w, 0, 8, 3, 50, 60)
		effect(t, w, 1, true)
	}
}

// P16.1: who waits to send: the eldest first; its registers stay.
func TestWaitToSend(t *testing.T) {
	w := start(t, "chan 1\nfunc\nconst 1 10\nspawn 1 1 0\nconst 1 20\nspawn 1 1 0\nconst 1 30\nsend 0 1\nrecv 0 2 3\nrecv 0 4 5\nrecv 0 6 7\nnop\nfunc\nsend 0 0\nnop")
	run(t, w, 0, 0, 0, 0, 0, 0)
	effect(t, w, 2, false)
	is(t, w, 2, world.Waiting)
	effect(t, w, 1, false)
	channel(t, w, 0, chans.State{Buffer: []int64{30}, Senders: []chans.Wait{{G: 2, V: 20}, {G: 1, V: 10}}})
	effect(t, w, 0, true, 2)
	is(t, w, 2, world.Ready)
	is(t, w, 1, world.Waiting)
	at(t, w, 2, 1, 20)
	at(t, w, 0, 7, 2, 30, 30, 1)
	channel(t, w, 0, chans.State{Buffer: []int64{20}, Senders: []chans.Wait{{G: 1, V: 10}}})
	effect(t, w, 0, true, 1)
	at(t, w, 1, 1, 10)
	at(t, w, 0, 8, 2, 30, 30, 1, 20, 1)
	channel(t, w, 0, chans.State{Buffer: []int64{10}})
	effect(t, w, 0, true)
	at(t, w, 0, 9, 2, 30, 30, 1, 20, 1, 10, 1)
	effect(t, w, 2, true)

	// Without a buffer.
	w = start(t, "chan 0\nfunc\nconst 1 10\nspawn 1 1 0\nrecv 0 2 2\nnop\nfunc\nsend 0 0\nnop")
	run(t, w, 0, 0)
	effect(t, w, 1, false)
	channel(t, w, 0, chans.State{Senders: []chans.Wait{{G: 1, V: 10}}})
	effect(t, w, 0, true, 1)
	at(t, w, 0, 3, 1, 10, 1)
	at(t, w, 1, 1, 10)
	channel(t, w, 0, chans.State{})
}

// P16.1: who waits in a function that was called goes on there.
func TestWaitInCall(t *testing.T) {
	w := start(t, "chan 0\nfunc\nspawn 1 0 1\nconst 2 6\nsend 0 2\nnop\nfunc\nconst 3 1\ncall 2 3 4\nemit 4\nfunc\nrecv 0 5 6\nreturn 5")
	run(t, w, 0, 0, 1, 1, 1)
	effect(t, w, 0, true, 1)
	at(t, w, 1, 1, 1, 0, 0, 0, 0, 6, 1)
	if s := w.Stack(1); len(s) != 2 || s[0].R != [8]int64{0, 0, 0, 1} {
		t.Errorf("Stack: %+v", s)
	}
	run(t, w, 1, 1)
	if out := w.Out(); !slices.Equal(out, []int64{6}) {
		t.Errorf("Out: %v", out)
	}
}

// P16.1: Close: whoever waited to receive receives nothing, in their order; at other channels who waits goes on waiting.
func TestCloseWakes(t *testing.T) {
	w := start(t, `chan 1
chan 0
recv 1 6
recv 0 5
recv 0 6
func
spawn 1 7 0
spawn 1 7 0
spawn 2 7 0
spawn 3 7 0
spawn 4 7 0
close 0
nop
func
const 3 9
const 4 9
recv 0 3 4
nop
func
const 5 9
const 6 9
const 7 9
select 0 3 7
nop
func
recv 1 0 0
nop
func
const 2 9
recv 0 2 2
`)
	run(t, w, 0, 0, 0, 0, 0, 5, 5, 2, 2, 2, 3, 3, 3, 3, 1, 1, 1, 4)
	channel(t, w, 0, chans.State{Receivers: []chans.Wait{{G: 5}, {G: 2}, {G: 3, Case: 1}, {G: 3, Case: 2}, {G: 1}}})
	channel(t, w, 1, chans.State{Receivers: []chans.Wait{{G: 3, Case: 0}, {G: 4}}})
	effect(t, w, 0, true, 5, 2, 3, 1)
	at(t, w, 5, 2, 0)
	at(t, w, 2, 3)
	at(t, w, 1, 3)
	// By the first of its two, and it leaves the other channel.
	at(t, w, 3, 4, 0, 0, 0, 0, 0, 0, 9, 1)
	channel(t, w, 0, chans.State{Closed: true})
	channel(t, w, 1, chans.State{Receivers: []chans.Wait{{G: 4}}})
	for g, status := range []int{world.Ready, world.Ready, world.Ready, world.Ready, world.Waiting, world.Ready} {
		is(t, w, g, status)
	}
	effect(t, w, 3, true)
}

// P16.1: Close of a channel at which nobody waits.
func TestCloseOfNobody(t *testing.T) {
	w := start(t, "chan 2\nchan 0\nfunc\nsend 0 0\nclose 0\nclose 1\nnop")
	run(t, w, 0)
	effect(t, w, 0, true)
	channel(t, w, 0, chans.State{Buffer: []int64{0}, Closed: true})
	channel(t, w, 1, chans.State{})
	effect(t, w, 0, true)
	channel(t, w, 1, chans.State{Closed: true})
	at(t, w, 0, 3)
}

// P16.1: of the cases that can go each, by its draw; which comes into C, counted from the select's first one on.
func TestSelectByDraw(t *testing.T) {
	text := `chan 1
chan 2
chan 0
chan 3
send 0 1
send 2 1
recv 0 2
recv 1 2
else
send 1 4
recv 3 6
send 3 3
func
const 3 33
const 4 44
const 6 66
send 0 4
send 1 3
close 3
select 1 7 5
nop
`
	// Of the seven from the second on: a receive at 0, one at 1, a send into 1, a receive of a closed one, and a send into that.
	for draw, x := range []struct {
		place  int
		regs   []int64
		zero   []int64
		one    []int64
		closes bool
	}{
		{1, []int64{0, 0, 44, 33, 44, 1, 66}, nil, []int64{33}, false},
		{2, []int64{0, 0, 33, 33, 44, 2, 66}, []int64{44}, nil, false},
		{4, []int64{0, 0, 0, 33, 44, 4, 66}, []int64{44}, []int64{33, 44}, false},
		{5, []int64{0, 0, 0, 33, 44, 5, 0}, []int64{44}, []int64{33}, false},
		{6, nil, nil, nil, true},
	} {
		w := start(t, text)
		run(t, w, 0, 0, 0, 0, 0, 0)
		if x.closes {
			trapped(t, w, 0, world.TrapSend, drawing(t, record.Case, 5, draw))
			continue
		}
		check(t, w.Exec(0, drawing(t, record.Case, 5, draw)), true)
		at(t, w, 0, 7, x.regs...)
		channel(t, w, 0, chans.State{Buffer: x.zero})
		channel(t, w, 1, chans.State{Buffer: x.one})
		channel(t, w, 2, chans.State{})
		channel(t, w, 3, chans.State{Closed: true})
	}
}

// P16.1: a select of which just one can go draws it, too, also beside an else.
func TestSelectOfOne(t *testing.T) {
	for _, text := range []string{"recv 0 3\nrecv 1 3\nelse", "else\nrecv 1 3\nrecv 0 3", "send 0 3\nrecv 1 3\nsend 0 4"} {
		w := start(t, "chan 0\nchan 1\n"+text+"\nfunc\nconst 1 5\nsend 1 1\nconst 4 9\nselect 0 3 4\nnop")
		run(t, w, 0, 0, 0)
		check(t, w.Exec(0, drawing(t, record.Case, 1, 0)), true)
		at(t, w, 0, 4, 0, 5, 0, 5, 1)
		channel(t, w, 0, chans.State{})
		channel(t, w, 1, chans.State{})
	}
}

// P16.1: what came, and which case it was, into one register: the case stays.
func TestSelectIntoOneRegister(t *testing.T) {
	w := start(t, "chan 1\nrecv 0 3\nelse\nfunc\nconst 3 7\nsend 0 3\nselect 0 2 3\nselect 0 2 3")
	run(t, w, 0, 0)
	check(t, w.Exec(0, first), true)
	at(t, w, 0, 3)
	effect(t, w, 0, true)
	at(t, w, 0, 4, 0, 0, 0, 1)

	w = start(t, "chan 0\nchan 0\nrecv 1 2\nrecv 0 2\nfunc\nconst 1 6\nspawn 1 1 0\nsend 0 1\nnop\nfunc\nselect 0 2 2")
	run(t, w, 0, 0, 1)
	effect(t, w, 0, true, 1)
	at(t, w, 1, 1, 6, 0, 1)
}

// P16.1: is there an else, and no other case that can go: nothing is drawn, its place comes into C, nobody waits.
func TestSelectElse(t *testing.T) {
	w := start(t, "chan 0\nrecv 0 2\nsend 0 2\nelse\nelse\nfunc\nconst 1 9\nselect 0 4 1\nselect 2 2 1\nselect 3 1 1\nselect 1 2 1")
	run(t, w, 0)
	for i, place := range []int64{2, 0, 0, 1} {
		effect(t, w, 0, true)
		at(t, w, 0, 2+i, 0, place)
		channel(t, w, 0, chans.State{})
	}
}

// P16.1: a select of which none can go waits at all: each case with its place, a send with its number.
func TestSelectWaits(t *testing.T) {
	w := start(t, "chan 0\nchan 1\nchan 0\nsend 2 7\nsend 0 1\nrecv 0 2\nrecv 1 3\nsend 0 4\nrecv 2 5\nfunc\nconst 1 11\nconst 4 44\nselect 1 4 6\nnop")
	run(t, w, 0, 0)
	effect(t, w, 0, false)
	is(t, w, 0, world.Waiting)
	at(t, w, 0, 3, 0, 11, 0, 0, 44)
	channel(t, w, 0, chans.State{Senders: []chans.Wait{{V: 11}, {Case: 3, V: 44}}, Receivers: []chans.Wait{{Case: 1}}})
	channel(t, w, 1, chans.State{Receivers: []chans.Wait{{Case: 2}}})
	channel(t, w, 2, chans.State{})
	if !w.Stuck() {
		t.Error("Stuck: false")
	}
}

// P16.1: one that waits at a select goes on by one case, and leaves all channels, those where it waits several times, too.
func TestSelectGoesOn(t *testing.T) {
	for _, x := range []struct {
		by     string  // what another one does
		others []int64 // registers of that one
		own    []int64
		buffer int64 // what is in channel 2 then
	}{
		{"send 0 7", []int64{1, 0, 0, 0, 0, 0, 0, 70}, []int64{0, 11, 70, 33, 44, 0, 1}, 9},
		{"send 1 7", []int64{1, 0, 0, 0, 0, 0, 0, 70}, []int64{0, 11, 0, 70, 44, 0, 2}, 9},
		{"recv 0 6 5", []int64{1, 0, 0, 0, 0, 1, 11, 70}, []int64{0, 11, 0, 33, 44, 0, 0}, 9},
		{"recv 2 6 5", []int64{1, 0, 0, 0, 0, 1, 9, 70}, []int64{0, 11, 0, 33, 44, 0, 3}, 44},
		{"close 1", []int64{1, 0, 0, 0, 0, 0, 0, 70}, []int64{0, 11, 0, 0, 44, 0, 2}, 9},
	} {
		w := start(t, "chan 0\nchan 1\nchan 1\nsend 0 1\nrecv 0 2\nrecv 1 3\nsend 2 4\nsend 0 4\nrecv 0 3\nsend 2 1\nfunc\nconst 7 9\nsend 2 7\nspawn 1 5 0\nconst 7 70\n"+x.by+"\nnop\nfunc\nconst 1 11\nconst 3 33\nconst 4 44\nselect 0 7 6\nnop")
		run(t, w, 0, 0, 0, 0, 1, 1, 1, 1)
		is(t, w, 1, world.Waiting)
		effect(t, w, 0, true, 1)
		is(t, w, 1, world.Ready)
		at(t, w, 1, 4, x.own...)
		at(t, w, 0, 5, x.others...)
		channel(t, w, 0, chans.State{})
		channel(t, w, 1, chans.State{Closed: x.by == "close 1"})
		channel(t, w, 2, chans.State{Buffer: []int64{x.buffer}})
		effect(t, w, 1, true)
	}
}

// P16.1: others that wait at the channels that one leaves stay there, in their order.
func TestLeavingLeavesOthers(t *testing.T) {
	w := start(t, "chan 0\nchan 0\nrecv 0 1\nrecv 1 2\nrecv 0 3\nfunc\nspawn 1 7 0\nspawn 1 7 0\nspawn 1 7 0\nconst 7 5\nsend 1 7\nsend 0 7\nnop\nfunc\nselect 0 3 4\nnop")
	run(t, w, 0, 0, 0, 0, 2, 1, 3)
	effect(t, w, 0, true, 2)
	at(t, w, 2, 1, 0, 0, 5, 0, 1)
	channel(t, w, 0, chans.State{Receivers: []chans.Wait{{G: 1}, {G: 1, Case: 2}, {G: 3}, {G: 3, Case: 2}}})
	channel(t, w, 1, chans.State{Receivers: []chans.Wait{{G: 1, Case: 1}, {G: 3, Case: 1}}})
	effect(t, w, 0, true, 1)
	at(t, w, 1, 1, 0, 5)
	channel(t, w, 0, chans.State{Receivers: []chans.Wait{{G: 3}, {G: 3, Case: 2}}})
	channel(t, w, 1, chans.State{Receivers: []chans.Wait{{G: 3, Case: 1}}})
}

// P16.1: two selects that wait for each other's: one that goes wakes the other one, by the case that it took.
func TestSelectWakesSelect(t *testing.T) {
	text := "chan 0\nchan 0\nsend 0 1\nrecv 1 2\nrecv 1 3\nsend 1 1\nrecv 0 4\nfunc\nconst 1 100\nspawn 1 1 0\nselect 0 3 7\nnop\nfunc\nadd 1 0 0\nselect 3 2 7\nnop"
	w := start(t, text)
	run(t, w, 0, 0, 0, 1)
	check(t, w.Exec(1, drawing(t, record.Case, 2, 0)), true, 0)
	at(t, w, 0, 3, 1, 100, 200, 0, 0, 0, 0, 1)
	at(t, w, 1, 2, 100, 200)
	w = start(t, text)
	run(t, w, 0, 0, 0, 1)
	check(t, w.Exec(1, drawing(t, record.Case, 2, 1)), true, 0)
	at(t, w, 0, 3, 1, 100)
	at(t, w, 1, 2, 100, 200, 0, 0, 100, 0, 0, 1)
	for i := range 2 {
		channel(t, w, i, chans.State{})
	}
}

// P16.1: one that waits at both sides of a channel doesn't serve itself.
func TestSelectIsNotServedByItself(t *testing.T) {
	w := start(t, "chan 0\nsend 0 1\nrecv 0 2\nfunc\nconst 1 5\nselect 0 2 3\nnop")
	run(t, w, 0)
	effect(t, w, 0, false)
	channel(t, w, 0, chans.State{Senders: []chans.Wait{{V: 5}}, Receivers: []chans.Wait{{Case: 1}}})
	if !w.Stuck() {
		t.Error("Stuck: false")
	}
}

// panicsWith is what an Exec panics with.
func panicsWith(w *world.World, g int, draw func(kind, n int) int) (x any) {
	defer func() { x = recover() }()
	w.Exec(g, draw)
	return nil
}

// P16.1: if draw panics, Exec panics with the same, and nothing has changed: the instruction can be done behind that.
func TestDrawPanics(t *testing.T) {
	type own struct{ a, b int }
	for _, text := range []string{"chan 1\nrecv 0 2\nsend 0 3\nfunc\nselect 0 2 1\nnop", "func\nrand 1 10\nnop"} {
		w, still := start(t, text), start(t, text)
		ahead := show(w)
		for _, x := range []any{5, "x", own{1, 2}, -7, fmt.Errorf("an error"), &own{}} {
			if got := panicsWith(w, 0, func(kind, n int) int { panic(x) }); got != x {
				t.Errorf("%q: panics with %v, not %v", text, got, x)
			}
			stays(t, "a draw that panics", w, ahead)
		}
		check(t, w.Exec(0, last), true)
		check(t, still.Exec(0, last), true)
		stays(t, "a draw that panicked", w, show(still))
	}
}

// P16.1: the draw is answered ahead of anything that changes.
func TestDrawIsAhead(t *testing.T) {
	for _, text := range []string{"chan 1\nrecv 0 2\nsend 0 3\nfunc\nselect 0 2 1\nnop", "chan 0\nfunc\nrand 1 10\nnop"} {
		w := start(t, text)
		ahead := show(w)
		drawn := 0
		check(t, w.Exec(0, func(kind, n int) int {
			drawn++
			stays(t, "what is drawn", w, ahead)
			return 0
		}), true)
		if drawn != 1 {
			t.Errorf("%q: %d draws", text, drawn)
		}
	}
}

// P1, P16.2: a draw that calls the same world: behind the end, or while it waits, the goroutine does nothing any more.
func TestDrawCallsItsWorld(t *testing.T) {
	for _, x := range []struct {
		draws, behind string
		calls         []int // who does something meanwhile
	}{
		{"rand 1 9", "nop", []int{1}},
		{"select 0 2 1", "nop", []int{1}},
		{"rand 1 9", "recv 0 1 2", []int{0, 0}},
		{"select 1 1 1", "recv 1 1 2", []int{0, 0}},
		{"select 0 2 1", "lock 0\nlock 0", []int{0, 0, 0}},
		{"rand 1 9", "return 0", []int{0, 0}},
		{"select 1 1 1", "", []int{0, 0}},
	} {
		w := start(t, "chan 1\nchan 0\nlocks 1\nrecv 0 2\nsend 0 3\nfunc\nspawn 1 7 0\n"+x.draws+"\n"+x.behind+"\nfunc\ntrap 3")
		run(t, w, 0)
		var ahead string
		check(t, w.Exec(0, func(kind, n int) int {
			for _, g := range x.calls {
				w.Exec(g, last)
			}
			ahead = show(w)
			return n - 1
		}), false)
		stays(t, "who can't go on", w, ahead)
	}
}

// P1: a draw that isn't from 0 to below how many there are is answered by the nearest that is.
func TestDrawBeyond(t *testing.T) {
	for text, n := range map[string]int{"chan 1\nrecv 0 2\nsend 0 3\nelse\nsend 0 4\nrecv 0 5\nsend 0 6\nfunc\nselect 0 6 1\nnop": 3, "func\nrand 1 10\nnop": 10} {
		for answer, as := range map[int]int{-1: 0, math.MinInt: 0, n: n - 1, n + 1: n - 1, math.MaxInt: n - 1} {
			w, still := start(t, text), start(t, text)
			check(t, w.Exec(0, func(kind, n int) int { return answer }), true)
			check(t, still.Exec(0, func(kind, n int) int { return as }), true)
			stays(t, "a draw", w, show(still))
		}
	}
}

// K3: what is answered stays as it is, whatever is called later, and a world doesn't look at it again.
func TestAnswersAreNew(t *testing.T) {
	text := "chan 3\nchan 0\nlocks 1\nfunc\nconst 1 4\nspawn 1 1 0\nspawn 2 1 0\nspawn 3 1 0\nemit 1\nsend 0 1\nlock 0\njump 4\nfunc\nsleep 0\nlock 0\nfunc\nlock 0\nfunc\nrecv 1 1 2"
	w, still := start(t, text), start(t, text)
	all := func(w *world.World) {
		run(t, w, 0, 0, 0, 0, 0, 0, 0, 1, 2, 3)
	}
	all(w)
	all(still)
	ahead, v := show(w), look(w)
	run(t, w, 0, 0, 0, 0)
	for range 4 {
		w.Tick()
	}
	if was := fmt.Sprintf("%+v", v); was != ahead {
		t.Errorf("what was answered changed:\n%s, not\n%s", was, ahead)
	}
	// Others write to what was answered.
	v = look(still)
	for _, s := range v.Stacks {
		s[0].R[3], s[0].At = 77, 50
	}
	v.Out[0], v.Sleepers[0].At, v.Waits[0][0] = 77, 1, 0
	v.Chans[0].Buffer[0], v.Chans[1].Receivers[0].G = 77, 0
	stays(t, "who writes to answers", still, ahead)
}

// K3: who can go on is told in new memory.
func TestReadyIsNew(t *testing.T) {
	w := start(t, "chan 0\nfunc\nconst 1 1\nspawn 1 1 0\nspawn 1 1 0\nspawn 2 1 0\nspawn 2 1 0\nclose 0\nnop\nnop\nfunc\nrecv 0 1 2\nsleep 0\nfunc\nsleep 0\nsleep 0")
	run(t, w, 0, 0, 0, 0, 0, 1, 2, 3, 4)
	woken := w.Exec(0, undrawn).Ready
	ticked := w.Tick()
	woken[0], ticked[0] = 99, 99
	run(t, w, 3, 4)
	if again := w.Tick(); !slices.Equal(again, []int{3, 4}) || !slices.Equal(woken, []int{99, 2}) || !slices.Equal(ticked, []int{99, 4}) {
		t.Errorf("%v, %v, %v", again, woken, ticked)
	}
	is(t, w, 1, world.Ready)
}
