package chans_test

import (
	"math"
	"slices"
	"testing"

	"shunter/api"
	"shunter/chans"
)

// wait is one that waits.
func wait(g, which int, v int64) chans.Wait {
	return chans.Wait{G: g, Case: which, V: v}
}

// rows is a list of those that wait.
func rows(l ...chans.Wait) []chans.Wait {
	return l
}

// numbers is so many one behind the other.
func numbers(from int64, many int) []int64 {
	var l []int64
	for i := range many {
		l = append(l, from+int64(i))
	}
	return l
}

// same: do two channels show the same? A list that is nil is an empty one.
func same(a, b chans.State) bool {
	return slices.Equal(a.Buffer, b.Buffer) && slices.Equal(a.Senders, b.Senders) && slices.Equal(a.Receivers, b.Receivers) && a.Closed == b.Closed
}

// check holds a channel with that room against what it is to show, and against whether one can send and receive then: as it is told, and as a clone finds it.
func check(t *testing.T, name string, c *chans.Chan, room int, want chans.State) {
	t.Helper()
	if s := c.State(); !same(s, want) {
		t.Errorf("%s: %+v, not %+v", name, s, want)
	}
	send := want.Closed || len(want.Receivers) > 0 || len(want.Buffer) < room
	recv := want.Closed || len(want.Senders) > 0 || len(want.Buffer) > 0
	if c.CanSend() != send || c.CanRecv() != recv {
		t.Errorf("%s: CanSend %t, CanRecv %t, not %t, %t", name, c.CanSend(), c.CanRecv(), send, recv)
	}
	_, _, sendErr := c.Clone().Send(1)
	_, recvErr := c.Clone().Recv()
	if (sendErr == api.ErrFull) == send || (recvErr == api.ErrNone) == recv {
		t.Errorf("%s: Send: %d, Recv: %d, though CanSend %t, CanRecv %t", name, sendErr, recvErr, send, recv)
	}
}

// send sends a number, which somebody that waited receives (who, true), or the buffer.
func send(t *testing.T, c *chans.Chan, v int64, want chans.Wait, some bool) {
	t.Helper()
	if w, ok, err := c.Send(v); w != want || ok != some || err != api.OK {
		t.Errorf("Send(%d): %+v, %t, %d, not %+v, %t", v, w, ok, err, want, some)
	}
}

// fill sends numbers into the buffer.
func fill(t *testing.T, c *chans.Chan, l ...int64) {
	t.Helper()
	for _, v := range l {
		send(t, c, v, chans.Wait{}, false)
	}
}

func sendFails(t *testing.T, c *chans.Chan, want api.Errno) {
	t.Helper()
	if w, ok, err := c.Send(77); w != (chans.Wait{}) || ok || err != want {
		t.Errorf("Send: %+v, %t, %d, not %d", w, ok, err, want)
	}
}

func recv(t *testing.T, c *chans.Chan, want chans.Got) {
	t.Helper()
	if got, err := c.Recv(); got != want || err != api.OK {
		t.Errorf("Recv: %+v, %d, not %+v", got, err, want)
	}
}

// drain receives numbers, for which nobody waited.
func drain(t *testing.T, c *chans.Chan, l ...int64) {
	t.Helper()
	for _, v := range l {
		recv(t, c, chans.Got{V: v, Some: true})
	}
}

func recvNone(t *testing.T, c *chans.Chan) {
	t.Helper()
	if got, err := c.Recv(); got != (chans.Got{}) || err != api.ErrNone {
		t.Errorf("Recv of nothing: %+v, %d", got, err)
	}
}

func closes(t *testing.T, c *chans.Chan, receivers, senders []chans.Wait) {
	t.Helper()
	r, s, err := c.Close()
	if !slices.Equal(r, receivers) || !slices.Equal(s, senders) || err != api.OK {
		t.Errorf("Close: %v, %v, %d, not %v, %v", r, s, err, receivers, senders)
	}
}

func closesNoMore(t *testing.T, c *chans.Chan) {
	t.Helper()
	if r, s, err := c.Close(); len(r) != 0 || len(s) != 0 || err != api.ErrOver {
		t.Errorf("Close once more: %v, %v, %d", r, s, err)
	}
}

// channel is one that shows just that, and from which other numbers, and others that waited, went already.
func channel(t *testing.T, room int, want chans.State) *chans.Chan {
	t.Helper()
	c := chans.New(room)
	for i := range int64(3) {
		c.WaitSend(wait(99, 9, 990+i))
		recv(t, c, chans.Got{V: 990 + i, Some: true, Sender: wait(99, 9, 990+i), Woken: true})
		c.WaitRecv(wait(98, 8, 0))
		send(t, c, 980+i, wait(98, 8, 980+i), true)
	}
	fill(t, c, want.Buffer...)
	if want.Closed {
		closes(t, c, nil, nil)
	}
	for _, w := range want.Senders {
		c.WaitSend(w)
	}
	for _, w := range want.Receivers {
		c.WaitRecv(w)
	}
	check(t, "made for a test", c, room, want)
	return c
}

// P13.1
func TestNew(t *testing.T) {
	for _, x := range [][2]int{
		{0, 0}, {1, 1}, {2, 2}, {3, 3}, {15, 15}, {16, 16},
		{17, 16}, {18, 16}, {31, 16}, {256, 16}, {1 << 32, 16}, {1<<32 + 3, 16}, {math.MaxInt - 1, 16}, {math.MaxInt, 16},
		{-1, 0}, {-2, 0}, {-16, 0}, {-17, 0}, {-1 << 32, 0}, {3 - 1<<32, 0}, {math.MinInt, 0}, {math.MinInt + 5, 0},
	} {
		c, room := chans.New(x[0]), x[1]
		check(t, "New", c, room, chans.State{})
		recvNone(t, c)
		for n := range room {
			fill(t, c, int64(n))
			check(t, "some are in", c, room, chans.State{Buffer: numbers(0, n+1)})
		}
		sendFails(t, c, api.ErrFull)
		check(t, "all are in", c, room, chans.State{Buffer: numbers(0, room)})
		drain(t, c, numbers(0, room)...)
		recvNone(t, c)
		check(t, "all are out", c, room, chans.State{})
	}
}

// P13.1
func TestNoRoom(t *testing.T) {
	c := chans.New(0)
	sendFails(t, c, api.ErrFull)
	recvNone(t, c)
	check(t, "nobody waits", c, 0, chans.State{})
	c.WaitSend(wait(3, 1, 10))
	check(t, "somebody waits to send", c, 0, chans.State{Senders: rows(wait(3, 1, 10))})
	sendFails(t, c, api.ErrFull)
	recv(t, c, chans.Got{V: 10, Some: true, Sender: wait(3, 1, 10), Woken: true})
	recvNone(t, c)
	c.WaitRecv(wait(4, 2, 0))
	check(t, "somebody waits to receive", c, 0, chans.State{Receivers: rows(wait(4, 2, 0))})
	recvNone(t, c)
	send(t, c, 11, wait(4, 2, 11), true)
	sendFails(t, c, api.ErrFull)
	check(t, "nobody waits any more", c, 0, chans.State{})
}

// P13.1
func TestRoomForOne(t *testing.T) {
	c := chans.New(1)
	for v := range int64(5) {
		recvNone(t, c)
		fill(t, c, v)
		check(t, "one is in", c, 1, chans.State{Buffer: numbers(v, 1)})
		sendFails(t, c, api.ErrFull)
		check(t, "behind ErrFull", c, 1, chans.State{Buffer: numbers(v, 1)})
		drain(t, c, v)
		check(t, "it is out", c, 1, chans.State{})
	}
}

// P13.1: any numbers go through as they are.
func TestAnyNumbers(t *testing.T) {
	l := []int64{0, -1, math.MaxInt64, math.MinInt64, 1 << 32, -1 << 32, 1<<53 + 1, 0}
	c := chans.New(16)
	fill(t, c, l...)
	check(t, "any numbers", c, 16, chans.State{Buffer: l})
	drain(t, c, l...)
	for _, v := range l {
		w := wait(int(v), -int(v/2), v)
		c.WaitSend(w)
		check(t, "somebody waits to send", c, 16, chans.State{Senders: rows(w)})
		recv(t, c, chans.Got{V: v, Some: true, Sender: w, Woken: true})
		w.V = 5
		c.WaitRecv(w)
		check(t, "somebody waits to receive", c, 16, chans.State{Receivers: rows(w)})
		w.V = v
		send(t, c, v, w, true)
	}
	check(t, "all went through", c, 16, chans.State{})
}

// P13.1: the eldest of those that wait to receive is answered, with the number, and all others stay.
func TestSendToWhoWaits(t *testing.T) {
	for room := range 3 {
		c := channel(t, room, chans.State{Receivers: rows(wait(7, 3, 0), wait(5, 2, 40), wait(7, 1, 0))})
		send(t, c, 60, wait(7, 3, 60), true)
		check(t, "one received", c, room, chans.State{Receivers: rows(wait(5, 2, 40), wait(7, 1, 0))})
		send(t, c, -61, wait(5, 2, -61), true)
		check(t, "two received", c, room, chans.State{Receivers: rows(wait(7, 1, 0))})
		send(t, c, 0, wait(7, 1, 0), true)
		check(t, "all received", c, room, chans.State{})
		fill(t, c, numbers(1, room)...)
		sendFails(t, c, api.ErrFull)
	}
}

// P13.1: who waits to receive is asked ahead of the buffer; who waits to send isn't asked.
func TestSendLooksForReceiversFirst(t *testing.T) {
	for many := range 4 {
		s := chans.State{Buffer: numbers(1, many), Senders: rows(wait(2, 0, 50)), Receivers: rows(wait(3, 1, 0))}
		c := channel(t, 3, s)
		send(t, c, 60, wait(3, 1, 60), true)
		s.Receivers = nil
		check(t, "one received", c, 3, s)
		if many == 3 {
			sendFails(t, c, api.ErrFull)
		} else {
			fill(t, c, 61)
			s.Buffer = append(s.Buffer, 61)
		}
		check(t, "nobody received", c, 3, s)
	}
}

// P13.1: the number of who waits to send comes to the buffer's end, and the eldest one goes.
func TestRecvWhereSomebodyWaits(t *testing.T) {
	for room := range 5 {
		for many := range room + 1 {
			first, other := wait(4, 2, 50), wait(6, 1, 51)
			c := channel(t, room, chans.State{Buffer: numbers(50-int64(many), many), Senders: rows(first, other), Receivers: rows(wait(8, 0, 0))})
			recv(t, c, chans.Got{V: 50 - int64(many), Some: true, Sender: first, Woken: true})
			check(t, "one was let in", c, room, chans.State{Buffer: numbers(51-int64(many), many), Senders: rows(other), Receivers: rows(wait(8, 0, 0))})
			recv(t, c, chans.Got{V: 51 - int64(many), Some: true, Sender: other, Woken: true})
			check(t, "two were let in", c, room, chans.State{Buffer: numbers(52-int64(many), many), Receivers: rows(wait(8, 0, 0))})
			drain(t, c, numbers(52-int64(many), many)...)
			recvNone(t, c)
		}
	}
}

// P13.1
func TestFullBufferWhereSomebodyWaits(t *testing.T) {
	c := channel(t, 16, chans.State{Buffer: numbers(0, 16), Senders: rows(wait(1, 0, 16), wait(2, 0, 17))})
	sendFails(t, c, api.ErrFull)
	recv(t, c, chans.Got{V: 0, Some: true, Sender: wait(1, 0, 16), Woken: true})
	sendFails(t, c, api.ErrFull)
	recv(t, c, chans.Got{V: 1, Some: true, Sender: wait(2, 0, 17), Woken: true})
	sendFails(t, c, api.ErrFull)
	drain(t, c, 2)
	fill(t, c, 18)
	sendFails(t, c, api.ErrFull)
	check(t, "in the end", c, 16, chans.State{Buffer: numbers(3, 16)})
	drain(t, c, numbers(3, 16)...)
}

// P13.1
func TestClosed(t *testing.T) {
	for _, room := range []int{0, 1, 2, 16} {
		for _, many := range []int{0, 1, room / 2, room} {
			if many > room {
				continue
			}
			c := chans.New(room)
			fill(t, c, numbers(4, many)...)
			closes(t, c, nil, nil)
			for n := range many {
				check(t, "closed", c, room, chans.State{Buffer: numbers(4+int64(n), many-n), Closed: true})
				sendFails(t, c, api.ErrOver)
				closesNoMore(t, c)
				drain(t, c, 4+int64(n))
			}
			for range 3 {
				check(t, "closed, and empty", c, room, chans.State{Closed: true})
				sendFails(t, c, api.ErrOver)
				closesNoMore(t, c)
				recv(t, c, chans.Got{})
			}
		}
	}
}

// P13.1: each row in its order; nobody waits any more, and what is in the buffer stays there.
func TestCloseWithThoseThatWait(t *testing.T) {
	receivers := rows(wait(9, 1, 0), wait(2, 5, 7), wait(9, 0, 0), wait(0, 0, 0))
	senders := rows(wait(4, 2, -3), wait(3, 0, 8), wait(4, 1, 8), wait(9, 1, 0), wait(1, 31, 2))
	for r := range len(receivers) + 1 {
		for s := range len(senders) + 1 {
			for many := range 3 {
				c := channel(t, 2, chans.State{Buffer: numbers(5, many), Receivers: receivers[:r], Senders: senders[:s]})
				closes(t, c, receivers[:r], senders[:s])
				check(t, "closed", c, 2, chans.State{Buffer: numbers(5, many), Closed: true})
				closesNoMore(t, c)
				drain(t, c, numbers(5, many)...)
				recv(t, c, chans.Got{})
			}
		}
	}
}

// P13.1: a closed channel's rows are as those of any other one, but that nobody sends, and none is closed again.
func TestWhoWaitsAtAClosedChannel(t *testing.T) {
	s := chans.State{Buffer: numbers(1, 1), Senders: rows(wait(4, 1, 2)), Receivers: rows(wait(5, 1, 0)), Closed: true}
	c := channel(t, 2, s)
	sendFails(t, c, api.ErrOver)
	closesNoMore(t, c)
	check(t, "behind errors", c, 2, s)
	recv(t, c, chans.Got{V: 1, Some: true, Sender: wait(4, 1, 2), Woken: true})
	check(t, "one was let in", c, 2, chans.State{Buffer: numbers(2, 1), Receivers: rows(wait(5, 1, 0)), Closed: true})
	drain(t, c, 2)
	recv(t, c, chans.Got{})
	c.Drop(5)
	check(t, "nobody waits", c, 2, chans.State{Closed: true})
}

// P13.1: the chapter's example.
func TestExample(t *testing.T) {
	c := chans.New(1)
	fill(t, c, 5)
	sendFails(t, c, api.ErrFull)
	drain(t, c, 5)
}

// P1: a Chan that New didn't make.
func TestAZeroChan(t *testing.T) {
	var c chans.Chan
	c.Drop(0)
	c.WaitSend(wait(1, 0, 2))
	c.WaitRecv(wait(2, 0, 0))
	for range 3 {
		c.CanSend()
		c.CanRecv()
		c.Send(3)
		c.Recv()
		c.Clone().Recv()
		c.State()
	}
	c.Close()
	c.Close()
	c.Drop(1)
}
