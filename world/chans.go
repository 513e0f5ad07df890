package world

import (
	"shunter/api"
	"shunter/chans"
	"shunter/code"
	"shunter/picks"
)

// casesOf: those of an instruction at channels: a send, or a receive, is one case by itself.
func (w *World) casesOf(x code.Ins) []code.Case {
	switch x.Op {
	case code.Send:
		return []code.Case{{Way: code.WaySend, Chan: x.A, Reg: x.B}}
	case code.Recv:
		return []code.Case{{Way: code.WayRecv, Chan: x.A, Reg: x.B}}
	}
	return w.cases[x.A : x.A+x.B]
}

func (d *doing) sendOrRecv() {
	if !d.try(0) {
		d.wait()
	}
}

func (d *doing) choose() {
	if d.goes {
		d.try(d.drawn)
		return
	}
	if place, ok := picks.Else(d.w.casesOf(d.x)); ok {
		d.top().R[d.x.C] = int64(place)
		return
	}
	d.wait()
}

// wait: at all cases.
func (d *doing) wait() {
	picks.Wait(d.g, d.w.casesOf(d.x), d.top().R[:], d.w.chans)
	d.me().Status = Waiting
}

// try: the case at a place goes; false: it can't yet.
func (d *doing) try(place int) bool {
	c := d.w.casesOf(d.x)[place]
	if c.Way == code.WaySend {
		return d.send(c, place)
	}
	return d.recv(c, place)
}

// send: false: there is no room, and nobody waits to receive.
func (d *doing) send(c code.Case, place int) bool {
	receiver, woken, err := d.w.chans[c.Chan].Send(d.top().R[c.Reg])
	if err == api.ErrOver {
		panic(trap(TrapSend))
	}
	if err != api.OK {
		return false
	}
	if woken {
		d.goOn(receiver, true)
	}
	d.w.finish(d.x, chans.Wait{G: d.g, Case: place}, false)
	return true
}

// recv: false: there is nothing, and nobody waits to send.
func (d *doing) recv(c code.Case, place int) bool {
	got, err := d.w.chans[c.Chan].Recv()
	if err != api.OK {
		return false
	}
	if got.Woken {
		d.goOn(got.Sender, false)
	}
	d.w.finish(d.x, chans.Wait{G: d.g, Case: place, V: got.V}, got.Some)
	return true
}

func (d *doing) close() {
	receivers, senders, err := d.w.chans[d.x.A].Close()
	if err != api.OK {
		panic(trap(TrapClose))
	}
	if len(senders) > 0 {
		panic(trap(TrapSend))
	}
	for _, r := range receivers {
		d.goOn(r, false)
	}
}

// goOn: one that waited at a channel goes on, by one of its cases; some: a number came.
func (d *doing) goOn(by chans.Wait, some bool) {
	// One may stand several times in a row that a Close let go of, and goes on by the first.
	if d.w.Status(by.G) != Waiting {
		return
	}
	// What one waits at is no jump: it stands just ahead.
	f := d.w.all[by.G].Stack.Top()
	d.w.finish(d.w.funcs[f.Func][f.At-1], by, some)
	picks.Leave(by.G, d.w.chans)
	d.wake(by.G)
}

// finish: what an instruction came to at a channel, by one of its cases, stands in its registers; some: a number came.
func (w *World) finish(x code.Ins, by chans.Wait, some bool) {
	r := &w.all[by.G].Stack.Top().R
	if c := w.casesOf(x)[by.Case]; c.Way == code.WayRecv {
		r[c.Reg] = by.V
	}
	// Behind the number: they may be one register.
	switch {
	case x.Op == code.Select:
		r[x.C] = int64(by.Case)
	case x.Op == code.Recv && some:
		r[x.C] = 1
	case x.Op == code.Recv:
		r[x.C] = 0
	}
}
