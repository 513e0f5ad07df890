package chans_test

import (
	"slices"
	"testing"

	"shunter/api"
	"shunter/chans"
)

// waiter is one that waits at a model, in whichever of the two rows.
type waiter struct {
	receives bool
	w        chans.Wait
}

// model is a channel by the chapter's words: plain lists, of which one has both rows.
type model struct {
	room    int
	buffer  []int64
	waiters []waiter
	closed  bool
	next    int64 // what is sent next, so that no two numbers are the same
}

// row: who waits to receive, or to send.
func (m *model) row(receives bool) []chans.Wait {
	var l []chans.Wait
	for _, x := range m.waiters {
		if x.receives == receives {
			l = append(l, x.w)
		}
	}
	return l
}

// first cuts the eldest one that waits to receive, or to send, off; none: nobody does.
func (m *model) first(receives bool) []chans.Wait {
	for i, x := range m.waiters {
		if x.receives == receives {
			m.waiters = slices.Delete(slices.Clone(m.waiters), i, i+1)
			return rows(x.w)
		}
	}
	return nil
}

func (m *model) send(v int64) (chans.Wait, bool, api.Errno) {
	if m.closed {
		return chans.Wait{}, false, api.ErrOver
	}
	for _, w := range m.first(true) {
		return wait(w.G, w.Case, v), true, api.OK
	}
	if len(m.buffer) >= m.room {
		return chans.Wait{}, false, api.ErrFull
	}
	m.buffer = append(slices.Clone(m.buffer), v)
	return chans.Wait{}, false, api.OK
}

func (m *model) recv() (chans.Got, api.Errno) {
	var got chans.Got
	for _, w := range m.first(false) {
		m.buffer = append(slices.Clone(m.buffer), w.V)
		got.Sender, got.Woken = w, true
	}
	switch {
	case len(m.buffer) > 0:
		got.V, got.Some = m.buffer[0], true
		m.buffer = slices.Clone(m.buffer[1:])
		return got, api.OK
	case m.closed:
		return got, api.OK
	}
	return got, api.ErrNone
}

func (m *model) drop(g int) {
	var left []waiter
	for _, x := range m.waiters {
		if x.w.G != g {
			left = append(left, x)
		}
	}
	m.waiters = left
}

// state is new memory, as all that a model does makes new lists.
func (m *model) state() chans.State {
	return chans.State{Buffer: m.buffer, Senders: m.row(false), Receivers: m.row(true), Closed: m.closed}
}

// agrees: does a channel show the same?
func (m *model) agrees(c *chans.Chan) bool {
	canSend := m.closed || len(m.row(true)) > 0 || len(m.buffer) < m.room
	canRecv := m.closed || len(m.row(false)) > 0 || len(m.buffer) > 0
	return same(c.State(), m.state()) && c.CanSend() == canSend && c.CanRecv() == canRecv
}

// both are a channel, and a model of it.
type both struct {
	c *chans.Chan
	m *model
}

// call is a call of both; false: their answers aren't the same.
type call func(b *both) bool

func sends(b *both) bool {
	b.m.next++
	w, ok, err := b.c.Send(b.m.next)
	wantW, wantOK, wantErr := b.m.send(b.m.next)
	return w == wantW && ok == wantOK && err == wantErr
}

func recvs(b *both) bool {
	got, err := b.c.Recv()
	want, wantErr := b.m.recv()
	return got == want && err == wantErr
}

func closesBoth(b *both) bool {
	r, s, err := b.c.Close()
	if b.m.closed {
		return len(r) == 0 && len(s) == 0 && err == api.ErrOver
	}
	wantR, wantS := b.m.row(true), b.m.row(false)
	b.m.closed, b.m.waiters = true, nil
	return slices.Equal(r, wantR) && slices.Equal(s, wantS) && err == api.OK
}

func waitsSend(g int) call {
	return func(b *both) bool {
		b.m.next++
		w := wait(g, int(b.m.next%5), b.m.next)
		b.m.waiters = append(slices.Clone(b.m.waiters), waiter{receives: false, w: w})
		b.c.WaitSend(w)
		return true
	}
}

func waitsRecv(g int) call {
	return func(b *both) bool {
		w := wait(g, int(b.m.next%3), int64(g%2))
		b.m.waiters = append(slices.Clone(b.m.waiters), waiter{receives: true, w: w})
		b.c.WaitRecv(w)
		return true
	}
}

func drops(g int) call {
	return func(b *both) bool {
		b.m.drop(g)
		b.c.Drop(g)
		return true
	}
}

// clones goes on with a clone; who was cloned is spoilt.
func clones(b *both) bool {
	d := b.c.Clone()
	goOn(b.c)
	b.c = d
	return true
}

// runCalls: at which call a channel and its model aren't the same any more; -1: nowhere. What State answered behind each call must stay as it was.
func runCalls(room int, calls []call) int {
	b := &both{c: chans.New(room), m: &model{room: room}}
	var states, copies []chans.State
	for i, do := range calls {
		if !do(b) || !b.m.agrees(b.c) {
			return i
		}
		states = append(states, b.c.State())
		copies = append(copies, b.m.state())
	}
	if !slices.EqualFunc(states, copies, same) {
		return len(calls)
	}
	return -1
}

// P13.1, P13.2, K3: all rows of five calls.
func TestAllShortRowsOfCalls(t *testing.T) {
	calls := []call{sends, recvs, closesBoth, waitsSend(1), waitsRecv(1), waitsSend(2), waitsRecv(2), drops(1)}
	for i := range 8 * 8 * 8 * 8 * 8 {
		var l []call
		for n := i; len(l) < 5; n /= len(calls) {
			l = append(l, calls[n%len(calls)])
		}
		for room := range 3 {
			if at := runCalls(room, l); at >= 0 {
				t.Fatalf("room %d, row %d: strays at call %d", room, i, at)
			}
		}
	}
}

// P13.1, P13.2, K3: long ones, of few that wait or of many, at channels that are closed early, late, or never.
func TestLongRowsOfCalls(t *testing.T) {
	x := uint32(11)
	draw := func(n int) int {
		x = x*1664525 + 1013904223
		return int(x>>8) % n
	}
	for i := range 600 {
		most := []int{1, 3, 20}[i%3]
		end := []int{3, 60, 100000}[i/3%3]
		var l []call
		for len(l) < 120 {
			g := draw(most)
			l = append(l, []call{
				sends, sends, sends, sends, sends, recvs, recvs, recvs, recvs,
				waitsSend(g), waitsSend(g), waitsRecv(g), waitsRecv(g), drops(g), clones,
			}[draw(15)])
			if draw(end) == 0 {
				l = append(l, closesBoth)
			}
		}
		room := i / 9 % 17
		if at := runCalls(room, l); at >= 0 {
			t.Fatalf("row %d: strays at call %d", i, at)
		}
	}
}
