package chans_test

import (
	"slices"
	"testing"

	"shunter/api"
	"shunter/chans"
)

// traffic is a channel as goroutines use it: who can't send waits to, and who can't receive. Each number is another one, in the order in which they were sent.
type traffic struct {
	c        *chans.Chan
	sent     int64   // so many numbers
	received []int64 // in the order in which they came
	asked    int     // so many receives
	waited   []int   // which of the receives had to wait
	answered []int   // which of these got a number, in the order in which they did
	held     []int64 // the numbers of those that had to wait to send
	let      []int64 // which of these went in, in the order in which they did
}

// send: false: what was answered can't be.
func (x *traffic) send() bool {
	v := x.sent
	x.sent++
	w, ok, err := x.c.Send(v)
	switch {
	case err == api.ErrFull:
		x.c.WaitSend(wait(int(v), 0, v))
		x.held = append(x.held, v)
	case ok:
		x.answered = append(x.answered, w.G)
		x.received = append(x.received, w.V)
	}
	return err == api.OK || err == api.ErrFull && !ok
}

func (x *traffic) recv() bool {
	n := x.asked
	x.asked++
	got, err := x.c.Recv()
	switch {
	case err == api.ErrNone:
		x.c.WaitRecv(wait(n, 0, 0))
		x.waited = append(x.waited, n)
		return got == chans.Got{}
	case got.Woken:
		x.let = append(x.let, got.Sender.V)
	}
	x.received = append(x.received, got.V)
	return got.Some && err == api.OK
}

// inOrder: did all numbers so far come out in the order in which they went in, and did who waited go on in the order in which they came?
func (x *traffic) inOrder() bool {
	l := numbers(0, len(x.received))
	return slices.Equal(x.received, l) && startsWith(x.held, x.let) && startsWith(x.waited, x.answered)
}

func startsWith[T comparable](l, head []T) bool {
	return len(head) <= len(l) && slices.Equal(l[:len(head)], head)
}

// P13.2: numbers come out in the order in which they went in, each once, whoever waits among them.
func TestOrder(t *testing.T) {
	for _, room := range []int{0, 1, 2, 3, 7, 16} {
		for _, many := range []int{1, 2, 5, 40} { // beside each other
			x := &traffic{c: chans.New(room)}
			seed := uint32(room*100 + many)
			for range 300 {
				seed = seed*1664525 + 1013904223
				do := x.send
				if seed>>31 == 1 {
					do = x.recv
				}
				for range 1 + int(seed>>8)%many {
					if !do() || !x.inOrder() {
						t.Fatalf("room %d: sent %d, received %v, let in %v, answered %v", room, x.sent, x.received, x.let, x.answered)
					}
				}
			}
			for range x.sent - int64(len(x.received)) {
				x.recv()
			}
			if !x.inOrder() || int64(len(x.received)) != x.sent || len(x.let) != len(x.held) {
				t.Errorf("room %d: sent %d, received %v", room, x.sent, x.received)
			}
		}
	}
}

// P13.2: with the numbers of those that waited to send, which were told at Close, all came out once.
func TestOrderOfAClosedChannel(t *testing.T) {
	for _, room := range []int{0, 1, 2, 16} {
		for many := range 2*room + 3 {
			x := &traffic{c: chans.New(room)}
			for range many {
				x.send()
			}
			for range many / 3 {
				x.recv()
			}
			r, senders, err := x.c.Close()
			for range many - len(x.received) - len(senders) {
				got, err := x.c.Recv()
				if !got.Some || got.Woken || err != api.OK {
					t.Fatalf("room %d: Recv: %+v, %d", room, got, err)
				}
				x.received = append(x.received, got.V)
			}
			recv(t, x.c, chans.Got{})
			for _, w := range senders {
				x.received = append(x.received, w.V)
			}
			if len(r) != 0 || err != api.OK || !x.inOrder() || len(x.received) != many {
				t.Errorf("room %d: sent %d, received %v, closed with %v, %d", room, many, x.received, r, err)
			}
		}
	}
}

// P13.2: who waits no more has its number with it; the others' come out in their order.
func TestOrderBehindDrop(t *testing.T) {
	for room := range 4 {
		for g := range 12 {
			x := &traffic{c: chans.New(room)}
			for range 12 {
				x.send()
			}
			x.c.Drop(g)
			var want []int64
			for v := range int64(12) {
				if v < int64(room) || v != int64(g) {
					want = append(want, v)
				}
			}
			for range want {
				x.recv()
			}
			if !slices.Equal(x.received, want) || x.c.CanRecv() {
				t.Errorf("room %d, behind Drop(%d): received %v, not %v", room, g, x.received, want)
			}
		}
	}
}
