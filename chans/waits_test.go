package chans_test

import (
	"math"
	"slices"
	"testing"

	"shunter/api"
	"shunter/chans"
)

// P13.1: one may wait several times, also as just the same one.
func TestOneWaitsSeveralTimes(t *testing.T) {
	for room := range 2 {
		var s chans.State
		c := channel(t, room, s)
		for _, w := range rows(wait(3, 0, 1), wait(3, 1, 2), wait(2, 0, 3), wait(3, 0, 4), wait(3, 1, 2), wait(3, 1, 2), wait(3, 5, -1)) {
			c.WaitSend(w)
			s.Senders = append(s.Senders, w)
			check(t, "one more waits to send", c, room, s)
			w.Case += 10
			c.WaitRecv(w)
			s.Receivers = append(s.Receivers, w)
			check(t, "one more waits to receive", c, room, s)
		}
		for len(s.Receivers) > 0 {
			w := s.Receivers[0]
			w.V = 100
			send(t, c, 100, w, true)
			s.Receivers = s.Receivers[1:]
			check(t, "one received", c, room, s)
		}
		for len(s.Senders) > 0 {
			recv(t, c, chans.Got{V: s.Senders[0].V, Some: true, Sender: s.Senders[0], Woken: true})
			s.Senders = s.Senders[1:]
			check(t, "one was let in", c, room, s)
		}
	}
}

// P13.1: who waits changes nothing in the buffer, whether there is room or not.
func TestWaitsLeaveTheBuffer(t *testing.T) {
	for many := range 4 {
		s := chans.State{Buffer: numbers(7, many)}
		c := channel(t, 3, s)
		c.WaitSend(wait(1, 2, 3))
		s.Senders = rows(wait(1, 2, 3))
		check(t, "WaitSend", c, 3, s)
		c.WaitRecv(wait(4, 5, 6))
		s.Receivers = rows(wait(4, 5, 6))
		check(t, "WaitRecv", c, 3, s)
		c.Drop(1)
		c.Drop(4)
		check(t, "Drop", c, 3, chans.State{Buffer: numbers(7, many)})
	}
}

// dropped is a row without those of a G.
func dropped(l []chans.Wait, g int) []chans.Wait {
	var left []chans.Wait
	for _, w := range l {
		if w.G != g {
			left = append(left, w)
		}
	}
	return left
}

// someRows are rows of each sort: none, one, one and the same several times, beside each other, at the ends, in between.
func someRows() [][]chans.Wait {
	return [][]chans.Wait{
		nil,
		rows(wait(1, 0, 5)),
		rows(wait(2, 1, 1)),
		rows(wait(1, 0, 5), wait(1, 1, 5)),
		rows(wait(1, 0, 2), wait(2, 0, 1)),
		rows(wait(2, 0, 1), wait(1, 0, 2)),
		rows(wait(2, 1, 0), wait(1, 2, 0), wait(2, 1, 0)),
		rows(wait(1, 2, 0), wait(2, 1, 0), wait(1, 1, 0)),
		rows(wait(3, 1, 1), wait(1, 3, 1), wait(1, 3, 1), wait(0, 1, 1), wait(1, 2, 3), wait(-1, 1, 1), wait(3, 1, 1), wait(1, 1, 1)),
		rows(wait(math.MaxInt, 1, 2), wait(math.MinInt, 1, 1), wait(1<<32+1, 1, 1), wait(1, 2, 2), wait(257, 1, 1), wait(0, 0, 0)),
	}
}

// P13.1: Drop is by the G alone, in both rows; the others stay in their order.
func TestDrop(t *testing.T) {
	for _, senders := range someRows() {
		for _, receivers := range someRows() {
			for _, g := range []int{0, 1, 2, 3, 4, -1, -2, 257, 1<<32 + 1, math.MinInt, math.MaxInt} {
				s := chans.State{Buffer: numbers(1, 2), Senders: senders, Receivers: receivers}
				c := channel(t, 2, s)
				c.Drop(g)
				s.Senders, s.Receivers = dropped(senders, g), dropped(receivers, g)
				check(t, "Drop", c, 2, s)
				c.Drop(g)
				check(t, "Drop once more", c, 2, s)
				c.WaitSend(wait(g, 8, 8))
				c.WaitRecv(wait(g, 9, 9))
				s.Senders, s.Receivers = append(s.Senders, wait(g, 8, 8)), append(s.Receivers, wait(g, 9, 9))
				check(t, "it waits again", c, 2, s)
				closes(t, c, s.Receivers, s.Senders)
			}
		}
	}
}

// P13.1: many wait; each call ends in its time.
func TestManyWait(t *testing.T) {
	const many = 100000
	c := chans.New(1)
	fill(t, c, -1)
	for i := range many {
		c.WaitSend(wait(i%7, i, int64(i)))
		c.WaitRecv(wait(i%5, i, 0))
	}
	c.Drop(3)
	for i := range many {
		if i%7 != 3 {
			if got, _ := c.Recv(); got.Sender != wait(i%7, i, int64(i)) || !got.Woken {
				t.Fatalf("Recv %d: %+v", i, got)
			}
		}
		if i%5 != 3 {
			if w, ok, _ := c.Send(int64(i)); w != wait(i%5, i, int64(i)) || !ok {
				t.Fatalf("Send %d: %+v, %t", i, w, ok)
			}
		}
	}
	check(t, "nobody waits any more", c, 1, chans.State{Buffer: numbers(many-1, 1)})
}

// spoil writes all over lists, and over what room they have behind their ends.
func spoil(l ...[]chans.Wait) {
	for _, row := range l {
		row = row[:cap(row)]
		for i := range row {
			row[i] = wait(-7, -7, -7)
		}
	}
}

// spoilState writes all over what a channel showed.
func spoilState(s chans.State) {
	spoil(s.Senders, s.Receivers)
	l := s.Buffer[:cap(s.Buffer)]
	for i := range l {
		l[i] = -7
	}
}

// shown are what channels with room for three may show: nothing, little, much.
func shown() []chans.State {
	var l []chans.State
	for many := range 4 {
		for _, r := range someRows() {
			l = append(l, chans.State{Buffer: numbers(3, many), Senders: r}, chans.State{Buffer: numbers(3, many), Senders: r, Receivers: r, Closed: true})
			l = append(l, chans.State{Buffer: numbers(3, many), Receivers: r}, chans.State{Buffer: numbers(3, many), Receivers: r, Senders: someRows()[8]})
		}
	}
	return l
}

// goOn calls what there is to call, some times.
func goOn(c *chans.Chan) {
	c.WaitSend(wait(1, 21, 22))
	c.WaitRecv(wait(2, 23, 24))
	c.Drop(3)
	c.Recv()
	c.Send(25)
	c.Drop(1)
	for i := range 5 {
		c.WaitRecv(wait(i, 26, 27))
		c.WaitSend(wait(i, 28, 29))
		c.Send(30)
		c.Recv()
	}
	c.Drop(2)
	c.Close()
	c.WaitSend(wait(5, 31, 32))
	c.WaitRecv(wait(6, 33, 34))
	for range 6 {
		c.Recv()
	}
}

// K3
func TestStateIsTheCallersOwn(t *testing.T) {
	for _, want := range shown() {
		c := channel(t, 3, want)
		other := c.State()
		spoilState(c.State())
		check(t, "a state was written to", c, 3, want)
		if !same(other, want) {
			t.Errorf("two states share memory: %+v", other)
		}
		c.WaitSend(wait(1, 2, 3))
		spoilState(other)
		c.WaitRecv(wait(4, 5, 6))
		want.Senders, want.Receivers = append(slices.Clone(want.Senders), wait(1, 2, 3)), append(slices.Clone(want.Receivers), wait(4, 5, 6))
		check(t, "a state was written to, behind a call", c, 3, want)
	}
}

// K3: no two lists of one state are one.
func TestListsOfAState(t *testing.T) {
	for _, want := range shown() {
		s := channel(t, 3, want).State()
		spoil(s.Senders)
		if !slices.Equal(s.Receivers, want.Receivers) {
			t.Errorf("Receivers became %v, as Senders were written to", s.Receivers)
		}
	}
}

// K3
func TestStateStaysWhileTheChannelGoesOn(t *testing.T) {
	for _, want := range shown() {
		c := channel(t, 3, want)
		s := c.State()
		goOn(c)
		if !same(s, want) {
			t.Errorf("a state became %+v, from %+v", s, want)
		}
	}
}

// P13.1, K3: a clone goes its own way, and so does who was cloned.
func TestClone(t *testing.T) {
	for _, want := range shown() {
		c := channel(t, 3, want)
		d := c.Clone()
		check(t, "Clone", d, 3, want)
		check(t, "who was cloned", c, 3, want)
		goOn(d)
		check(t, "who was cloned, as the clone went on", c, 3, want)
		d = c.Clone()
		goOn(c)
		check(t, "Clone, as who was cloned went on", d, 3, want)
		goOn(d)
		if !same(c.State(), d.State()) {
			t.Errorf("by the same calls: %+v, and %+v", c.State(), d.State())
		}
	}
}

// P13.1, K3: what each of the two puts behind a row's end is its own.
func TestCloneAppendsToItsOwn(t *testing.T) {
	for _, want := range shown() {
		if want.Closed || len(want.Buffer) == 3 || len(want.Receivers) > 0 {
			continue
		}
		c := channel(t, 3, want)
		d := c.Clone()
		fill(t, c, 70)
		fill(t, d, 80)
		c.WaitSend(wait(1, 1, 71))
		d.WaitSend(wait(2, 1, 81))
		c.WaitRecv(wait(3, 1, 72))
		d.WaitRecv(wait(4, 1, 82))
		one, other := want, want
		one.Buffer, other.Buffer = append(slices.Clone(want.Buffer), 70), append(slices.Clone(want.Buffer), 80)
		one.Senders, other.Senders = append(slices.Clone(want.Senders), wait(1, 1, 71)), append(slices.Clone(want.Senders), wait(2, 1, 81))
		one.Receivers, other.Receivers = rows(wait(3, 1, 72)), rows(wait(4, 1, 82))
		check(t, "who was cloned", c, 3, one)
		check(t, "the clone", d, 3, other)
	}
}

// P13.1: a clone has the same room.
func TestRoomOfAClone(t *testing.T) {
	for room := range api.MaxCap + 1 {
		c := chans.New(room)
		fill(t, c, numbers(0, room/2)...)
		d := c.Clone().Clone()
		check(t, "Clone", d, room, chans.State{Buffer: numbers(0, room/2)})
		fill(t, d, numbers(int64(room/2), room-room/2)...)
		check(t, "a full clone", d, room, chans.State{Buffer: numbers(0, room)})
		check(t, "who was cloned", c, room, chans.State{Buffer: numbers(0, room/2)})
	}
}

// K3: what Close answers is the caller's own, and stays.
func TestCloseAnswersListsOfItsOwn(t *testing.T) {
	for _, receivers := range someRows() {
		for _, senders := range someRows() {
			c := channel(t, 2, chans.State{Buffer: numbers(1, 1), Senders: senders, Receivers: receivers})
			d := c.Clone()
			r, s, _ := c.Close()
			goOn(c)
			if !slices.Equal(r, receivers) || !slices.Equal(s, senders) {
				t.Errorf("Close's answer became %v, %v, from %v, %v", r, s, receivers, senders)
			}
			spoil(r)
			if !slices.Equal(s, senders) {
				t.Errorf("Close's lists share memory: %v", s)
			}
			r, s, _ = d.Close()
			d.WaitSend(wait(5, 6, 7))
			d.WaitRecv(wait(6, 7, 8))
			spoil(r, s)
			check(t, "Close's answer was written to", d, 2, chans.State{Buffer: numbers(1, 1), Senders: rows(wait(5, 6, 7)), Receivers: rows(wait(6, 7, 8)), Closed: true})
		}
	}
}

// K4: channels have nothing to do with each other.
func TestChannelsShareNothing(t *testing.T) {
	a, b := chans.New(2), chans.New(1)
	fill(t, a, 1, 2)
	fill(t, b, 3)
	a.WaitSend(wait(1, 0, 4))
	b.WaitRecv(wait(1, 0, 0))
	b.Drop(1)
	check(t, "one", a, 2, chans.State{Buffer: numbers(1, 2), Senders: rows(wait(1, 0, 4))})
	closes(t, a, nil, rows(wait(1, 0, 4)))
	check(t, "another", b, 1, chans.State{Buffer: numbers(3, 1)})
}
