package picks_test

import (
	"fmt"
	"math"
	"slices"
	"testing"

	"shunter/chans"
	"shunter/code"
	"shunter/picks"
)

func recv(channel, reg int) code.Case {
	return code.Case{Way: code.WayRecv, Chan: channel, Reg: reg}
}

func send(channel, reg int) code.Case {
	return code.Case{Way: code.WaySend, Chan: channel, Reg: reg}
}

var otherwise = code.Case{Way: code.WayElse}

// show tells all that channels show; lists that are nil, and those without anything, read the same.
func show(l []*chans.Chan) string {
	var text string
	for _, c := range l {
		text += fmt.Sprintf("%+v\n", c.State())
	}
	return text
}

// registers are eight, each other than all others, and none 0.
func registers() []int64 {
	return []int64{math.MinInt64, 11, 22, 33, -44, 55, 66, math.MaxInt64}
}

// sort is a channel of some sort, and whether a receive, or a send, would go on there, by the words of layer 13.
type sort struct {
	name        string
	c           *chans.Chan
	recvs, goes bool
}

func made(room int, make func(c *chans.Chan)) *chans.Chan {
	c := chans.New(room)
	make(c)
	return c
}

// sorts are channels with and without room, with somebody at either side or at both, closed or not.
func sorts() []sort {
	fill := func(many int) func(c *chans.Chan) {
		return func(c *chans.Chan) {
			for range many {
				c.Send(5)
			}
		}
	}
	sender := func(c *chans.Chan) { c.WaitSend(chans.Wait{G: 7, Case: 1, V: 3}) }
	receiver := func(c *chans.Chan) { c.WaitRecv(chans.Wait{G: 8, Case: 2}) }
	shut := func(c *chans.Chan) { c.Close() }
	both := func(l ...func(c *chans.Chan)) func(c *chans.Chan) {
		return func(c *chans.Chan) {
			for _, f := range l {
				f(c)
			}
		}
	}
	return []sort{
		{"no room", made(0, fill(0)), false, false},
		{"room, empty", made(2, fill(0)), false, true},
		{"room, one there", made(2, fill(1)), true, true},
		{"full", made(2, fill(2)), true, false},
		{"no room, a sender", made(0, sender), true, false},
		{"full, a sender", made(1, both(fill(1), sender)), true, false},
		{"no room, a receiver", made(0, receiver), false, true},
		{"empty, a receiver", made(1, receiver), false, true},
		{"full, a receiver", made(1, both(fill(1), receiver)), true, true},
		{"no room, both wait", made(0, both(sender, receiver)), true, true},
		{"closed, no room", made(0, shut), true, true},
		{"closed, empty", made(3, shut), true, true},
		{"closed, full", made(1, both(fill(1), shut)), true, true},
	}
}

// P15.1: one case, at each sort of channel.
func TestEnabledOfOne(t *testing.T) {
	for _, s := range sorts() {
		l := []*chans.Chan{s.c}
		ahead := show(l)
		for _, x := range []struct {
			name string
			c    code.Case
			want bool
		}{{"receive", recv(0, 3), s.recvs}, {"send", send(0, 3), s.goes}, {"else", otherwise, false}} {
			got := picks.Enabled([]code.Case{x.c}, l)
			if want := slices.Repeat([]int{0}, map[bool]int{true: 1}[x.want]); !slices.Equal(got, want) {
				t.Errorf("%s of %s: %v", x.name, s.name, got)
			}
		}
		if show(l) != ahead {
			t.Errorf("%s: %s", s.name, show(l))
		}
	}
}

// P15.1: many cases at all sorts of channels: those that would go on, rising, each as often as it stands there.
func TestEnabledOfMany(t *testing.T) {
	all := sorts()
	var l []*chans.Chan
	for _, s := range all {
		l = append(l, s.c)
	}
	ahead := show(l)
	x := uint32(5)
	draw := func(n int) int {
		x = x*1664525 + 1013904223
		return int(x>>8) % n
	}
	for range 3000 {
		var cases []code.Case
		var want []int
		for place := range draw(33) {
			i := draw(len(all))
			c := code.Case{Way: draw(3), Chan: i, Reg: draw(8)}
			cases = append(cases, c)
			if c.Way == code.WayRecv && all[i].recvs || c.Way == code.WaySend && all[i].goes {
				want = append(want, place)
			}
		}
		kept := slices.Clone(cases)
		if got := picks.Enabled(cases, l); !slices.Equal(got, want) {
			t.Fatalf("Enabled(%v): %v, not %v", cases, got, want)
		}
		if !slices.Equal(cases, kept) {
			t.Fatalf("the cases were changed: %v, not %v", cases, kept)
		}
	}
	if show(l) != ahead {
		t.Errorf("the channels were changed")
	}
}

// P15.1: no cases, no channels; elses name no channel.
func TestEnabledOfNone(t *testing.T) {
	some := []*chans.Chan{chans.New(1)}
	for _, l := range [][]*chans.Chan{nil, {}, some} {
		for _, cases := range [][]code.Case{nil, {}, {otherwise}, {{Way: code.WayElse, Chan: 99, Reg: 99}, {Way: code.WayElse, Chan: -1, Reg: -1}}} {
			if got := picks.Enabled(cases, l); len(got) != 0 {
				t.Errorf("Enabled(%v): %v", cases, got)
			}
		}
	}
}

// K3: what was answered stays, and is nobody else's.
func TestEnabledIsNew(t *testing.T) {
	l := []*chans.Chan{chans.New(1)}
	cases := []code.Case{send(0, 0), recv(0, 0), send(0, 1)}
	a, b := picks.Enabled(cases, l), picks.Enabled(cases, l)
	a[0], a[1] = 9, 9
	if !slices.Equal(b, []int{0, 2}) || !slices.Equal(picks.Enabled(cases, l), []int{0, 2}) {
		t.Errorf("Enabled: %v", b)
	}
	l[0].Send(4)
	if picks.Enabled(cases, l); !slices.Equal(b, []int{0, 2}) {
		t.Errorf("behind another call: %v", b)
	}
}

// P15.1: none, one, several; whatever Chan and Reg of it are.
func TestElse(t *testing.T) {
	odd := code.Case{Way: code.WayElse, Chan: -5, Reg: 77}
	for _, x := range []struct {
		cases []code.Case
		place int
		ok    bool
	}{
		{nil, 0, false},
		{[]code.Case{recv(0, 0)}, 0, false},
		{[]code.Case{send(0, 0), recv(2, 2), send(1, 2)}, 0, false},
		{[]code.Case{otherwise}, 0, true},
		{[]code.Case{odd}, 0, true},
		{[]code.Case{recv(0, 0), otherwise}, 1, true},
		{[]code.Case{otherwise, recv(0, 0)}, 0, true},
		{[]code.Case{send(0, 2), odd, recv(0, 0)}, 1, true},
		{[]code.Case{recv(0, 0), send(0, 0), otherwise, otherwise, recv(2, 2), otherwise}, 2, true},
		{[]code.Case{otherwise, odd}, 0, true},
		{append(slices.Repeat([]code.Case{recv(2, 2)}, 31), otherwise), 31, true},
	} {
		if place, ok := picks.Else(x.cases); place != x.place || ok != x.ok {
			t.Errorf("Else(%v): %d, %t", x.cases, place, ok)
		}
	}
}

// P15.1: at several channels: the place, the number of a send's register, 0 of a receive.
func TestWait(t *testing.T) {
	l := []*chans.Chan{chans.New(0), chans.New(1), chans.New(2), chans.New(0)}
	cases := []code.Case{send(1, 7), recv(0, 1), otherwise, recv(1, 2), send(2, 0), {Way: code.WayElse, Chan: 99, Reg: -1}, send(0, 4)}
	kept, regs := slices.Clone(cases), registers()
	picks.Wait(6, cases, regs, l)
	for i, want := range []chans.State{
		{Receivers: []chans.Wait{{G: 6, Case: 1}}, Senders: []chans.Wait{{G: 6, Case: 6, V: -44}}},
		{Receivers: []chans.Wait{{G: 6, Case: 3}}, Senders: []chans.Wait{{G: 6, Case: 0, V: math.MaxInt64}}},
		{Senders: []chans.Wait{{G: 6, Case: 4, V: math.MinInt64}}},
		{},
	} {
		if got := l[i].State(); fmt.Sprint(got) != fmt.Sprint(want) {
			t.Errorf("channel %d: %+v, not %+v", i, got, want)
		}
	}
	if !slices.Equal(cases, kept) || !slices.Equal(regs, registers()) {
		t.Errorf("what was handed in: %v, %v", cases, regs)
	}
	regs[7] = 1
	if s := l[1].State(); s.Senders[0].V != math.MaxInt64 {
		t.Errorf("a register that changed: %+v", s)
	}
}

// P15.1: several times at one channel, behind those that waited already, in the order of the cases; whatever its state is.
func TestWaitAtOne(t *testing.T) {
	for _, s := range sorts() {
		l := []*chans.Chan{s.c}
		want := s.c.State()
		picks.Wait(0, []code.Case{recv(0, 1), send(0, 1), send(0, 2), recv(0, 1), send(0, 2)}, registers(), l)
		want.Receivers = append(want.Receivers, chans.Wait{Case: 0}, chans.Wait{Case: 3})
		want.Senders = append(want.Senders, chans.Wait{Case: 1, V: 11}, chans.Wait{Case: 2, V: 22}, chans.Wait{Case: 4, V: 22})
		if got := s.c.State(); fmt.Sprint(got) != fmt.Sprint(want) {
			t.Errorf("%s: %+v, not %+v", s.name, got, want)
		}
	}
}

// P15.1: of no cases, or elses alone, nobody waits.
func TestWaitOfNone(t *testing.T) {
	l := []*chans.Chan{chans.New(0)}
	ahead := show(l)
	for _, cases := range [][]code.Case{nil, {}, {otherwise, {Way: code.WayElse, Chan: 5, Reg: 50}}} {
		picks.Wait(3, cases, nil, l)
		picks.Wait(3, cases, registers(), nil)
		if show(l) != ahead {
			t.Errorf("Wait of %v: %s", cases, show(l))
		}
	}
}

// P15.1: one that waits several times at several channels waits nowhere any more; the others stay in their order.
func TestLeave(t *testing.T) {
	others := func(l []*chans.Chan, gs ...int) {
		for _, g := range gs {
			picks.Wait(g, []code.Case{send(0, g), recv(1, g), send(2, g), recv(2, g), send(0, g)}, registers(), l)
		}
	}
	fresh := func() []*chans.Chan {
		l := []*chans.Chan{chans.New(0), chans.New(1), chans.New(2), chans.New(1)}
		l[2].Send(1)
		return l
	}
	all, without, none := fresh(), fresh(), fresh()
	others(all, 1, 2, 3, 2, 4)
	others(without, 1, 3, 4)
	picks.Leave(2, all)
	if show(all) != show(without) {
		t.Errorf("Leave(2):\n%s, not\n%s", show(all), show(without))
	}
	for _, g := range []int{2, 0, 5, -1, math.MaxInt} {
		picks.Leave(g, all)
		if show(all) != show(without) {
			t.Errorf("Leave(%d) of who waits nowhere:\n%s, not\n%s", g, show(all), show(without))
		}
	}
	for _, g := range []int{4, 1, 3} {
		picks.Leave(g, all)
	}
	if show(all) != show(none) {
		t.Errorf("all left:\n%s, not\n%s", show(all), show(none))
	}
}

// P15.1: who waits at a part of the channels alone, at the first or the last one; and no channels.
func TestLeaveAtAll(t *testing.T) {
	picks.Leave(1, nil)
	for i := range 5 {
		var l []*chans.Chan
		for range 5 {
			l = append(l, chans.New(0))
		}
		ahead := show(l)
		picks.Wait(9, []code.Case{recv(i, 0)}, registers(), l)
		picks.Leave(9, l)
		if show(l) != ahead {
			t.Errorf("who waited to receive at %d: %s", i, show(l))
		}
		picks.Wait(9, []code.Case{send(i, 0), send(i, 1)}, registers(), l)
		picks.Leave(9, l)
		if show(l) != ahead {
			t.Errorf("who waited to send at %d: %s", i, show(l))
		}
	}
}
