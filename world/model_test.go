package world_test

import (
	"cmp"
	"slices"

	"shunter/api"
	"shunter/chans"
	"shunter/code"
	"shunter/frame"
	"shunter/heap"
	"shunter/locks"
	"shunter/record"
	"shunter/world"
)

// waiter is one that waits at a channel, whichever: at which side, by which case, with which number.
type waiter struct {
	g, channel, place int
	receives          bool
	v                 int64
}

// model is a world by the chapters' words, in plain lists: one of all that wait at channels, as they came; of each lock who came and hasn't given it yet.
type model struct {
	p        code.Program
	status   []int
	stacks   []frame.Stack
	buffers  [][]int64
	closed   []bool
	waiters  []waiter
	lines    [][]int
	asleep   []heap.Item
	slept    uint64
	clock    uint64
	out      []int64
	end, why int
	ready    []int // by the instruction that is done
}

func newModel(p code.Program) *model {
	m := &model{p: p, buffers: make([][]int64, len(p.Chans)), closed: make([]bool, len(p.Chans)), lines: make([][]int, p.Locks)}
	m.begins(0, 0)
	return m
}

func (m *model) begins(fun int, arg int64) {
	m.status = append(m.status, world.Ready)
	m.stacks = append(m.stacks, frame.Stack{{Func: fun, R: [8]int64{arg}}})
}

// top is a goroutine's last frame, in the model itself.
func (m *model) top(g int) *frame.Frame {
	return &m.stacks[g][len(m.stacks[g])-1]
}

// row: who waits at a side of a channel, the eldest first.
func (m *model) row(channel int, receives bool) []chans.Wait {
	var l []chans.Wait
	for _, x := range m.waiters {
		if x.channel == channel && x.receives == receives {
			l = append(l, chans.Wait{G: x.g, Case: x.place, V: x.v})
		}
	}
	return l
}

// can: would a receive, or a send, go on at a channel?
func (m *model) can(channel int, receives bool) bool {
	if m.closed[channel] || len(m.row(channel, !receives)) > 0 {
		return true
	}
	if receives {
		return len(m.buffers[channel]) > 0
	}
	return len(m.buffers[channel]) < m.p.Chans[channel]
}

func (m *model) trap(why int) {
	m.end, m.why = world.Trapped, why
}

func (m *model) wakes(g int) {
	m.status[g] = world.Ready
	m.ready = append(m.ready, g)
}

// goesOn: who waited at a channel does, by a case, as a receiver with a number, if some.
func (m *model) goesOn(by chans.Wait, receives bool, v, some int64) {
	f := m.top(by.G)
	switch x := m.p.Funcs[f.Func][f.At-1]; {
	case x.Op == code.Select:
		if receives {
			f.R[m.p.Cases[x.A+by.Case].Reg] = v
		}
		f.R[x.C] = int64(by.Case)
	case receives:
		f.R[x.B] = v
		f.R[x.C] = some
	}
	m.waiters = slices.DeleteFunc(m.waiters, func(x waiter) bool { return x.g == by.G })
	m.wakes(by.G)
}

// sends: of a channel where a send goes on, or traps.
func (m *model) sends(channel int, v int64) {
	if m.closed[channel] {
		m.trap(world.TrapSend)
		return
	}
	if l := m.row(channel, true); len(l) > 0 {
		m.goesOn(l[0], true, v, 1)
		return
	}
	m.buffers[channel] = append(m.buffers[channel], v)
}

// receives: of a channel where a receive goes on.
func (m *model) receives(channel int) (v, some int64) {
	if l := m.row(channel, false); len(l) > 0 {
		m.buffers[channel] = append(m.buffers[channel], l[0].V)
		m.goesOn(l[0], false, 0, 0)
	}
	if len(m.buffers[channel]) == 0 {
		return 0, 0
	}
	v = m.buffers[channel][0]
	m.buffers[channel] = m.buffers[channel][1:]
	return v, 1
}

func (m *model) waits(g, channel, place int, receives bool, v int64) {
	m.waiters = append(m.waiters, waiter{g, channel, place, receives, v})
	m.status[g] = world.Waiting
}

// enabled: the places of a select's cases that can go.
func (m *model) enabled(x code.Ins) []int {
	var l []int
	for place, c := range m.p.Cases[x.A : x.A+x.B] {
		if c.Way != code.WayElse && m.can(c.Chan, c.Way == code.WayRecv) {
			l = append(l, place)
		}
	}
	return l
}

// exec does what Exec should.
func (m *model) exec(g int, draw func(kind, n int) int) world.Effect {
	if m.end != world.Runs || g < 0 || g >= len(m.status) || m.status[g] != world.Ready {
		return world.Effect{}
	}
	f := m.top(g)
	if f.At == len(m.p.Funcs[f.Func]) {
		m.trap(world.TrapEnd)
		return world.Effect{}
	}
	x := m.p.Funcs[f.Func][f.At]
	drawn := 0
	if x.Op == code.Rand {
		drawn = draw(record.Rand, x.B)
	} else if l := []int(nil); x.Op == code.Select {
		if l = m.enabled(x); len(l) > 0 {
			drawn = l[draw(record.Case, len(l))]
		} else {
			drawn = -1
		}
	}
	m.ready = nil
	f.At++
	m.does(g, f, x, drawn)
	keep := m.end == world.Runs && m.status[g] == world.Ready && x.Op != code.Yield && x.Op != code.Sleep
	return world.Effect{Keep: keep, Ready: m.ready}
}

// does: an instruction, by its draw (of a select the place of its case; -1: none can go).
func (m *model) does(g int, f *frame.Frame, x code.Ins, drawn int) {
	switch x.Op {
	case code.Call:
		if len(m.stacks[g]) == api.MaxFrame {
			m.trap(world.TrapDeep)
			return
		}
		m.stacks[g] = append(m.stacks[g], frame.Frame{Func: x.A, R: [8]int64{f.R[x.B]}, Into: x.C})
	case code.Return:
		m.gives(g, f.R[x.A], f.Into)
	case code.Spawn:
		if len(m.status) == api.MaxG {
			m.trap(world.TrapMany)
			return
		}
		m.begins(x.A, f.R[x.B])
		f.R[x.C] = int64(len(m.status) - 1)
		m.ready = append(m.ready, len(m.status)-1)
	case code.Send, code.Recv, code.Close, code.Select:
		m.channels(g, f, x, drawn)
	case code.Sleep:
		if f.R[x.A] > 0 {
			m.status[g] = world.Asleep
			m.asleep = append(m.asleep, heap.Item{At: m.clock + uint64(min(f.R[x.A], 1<<20)), Seq: m.slept, ID: g})
			m.slept++
		}
	case code.Lock:
		if m.lines[x.A] = append(m.lines[x.A], g); len(m.lines[x.A]) > 1 {
			m.status[g] = world.Waiting
		}
	case code.Unlock:
		if len(m.lines[x.A]) == 0 || m.lines[x.A][0] != g {
			m.trap(world.TrapUnlock)
			return
		}
		if m.lines[x.A] = m.lines[x.A][1:]; len(m.lines[x.A]) > 0 {
			m.wakes(m.lines[x.A][0])
		}
	case code.Emit:
		if len(m.out) == api.MaxOut {
			m.trap(world.TrapOut)
			return
		}
		m.out = append(m.out, f.R[x.A])
	case code.Rand:
		f.R[x.A] = int64(drawn)
	case code.Trap:
		m.trap(x.A)
	case code.Yield:
	default:
		m.pure(f, x)
	}
}

func (m *model) gives(g int, v int64, into int) {
	if n := len(m.stacks[g]) - 1; n > 0 {
		m.stacks[g] = m.stacks[g][:n]
		m.top(g).R[into] = v
		return
	}
	m.status[g] = world.Done
	if g == 0 {
		m.end = world.Halted
	}
}

func (m *model) channels(g int, f *frame.Frame, x code.Ins, drawn int) {
	switch x.Op {
	case code.Send:
		if !m.can(x.A, false) {
			m.waits(g, x.A, 0, false, f.R[x.B])
			return
		}
		m.sends(x.A, f.R[x.B])
	case code.Recv:
		if !m.can(x.A, true) {
			m.waits(g, x.A, 0, true, 0)
			return
		}
		v, some := m.receives(x.A)
		f.R[x.B] = v
		f.R[x.C] = some
	case code.Close:
		m.closes(x.A)
	case code.Select:
		if drawn < 0 {
			m.none(g, f, x)
			return
		}
		if c := m.p.Cases[x.A+drawn]; c.Way == code.WayRecv {
			f.R[c.Reg], _ = m.receives(c.Chan)
		} else if m.sends(c.Chan, f.R[c.Reg]); m.end == world.Trapped {
			return
		}
		f.R[x.C] = int64(drawn)
	}
}

func (m *model) closes(channel int) {
	if m.closed[channel] {
		m.trap(world.TrapClose)
		return
	}
	receivers, senders := m.row(channel, true), m.row(channel, false)
	m.closed[channel] = true
	m.waiters = slices.DeleteFunc(m.waiters, func(x waiter) bool { return x.channel == channel })
	if len(senders) > 0 {
		m.trap(world.TrapSend)
		return
	}
	for _, by := range receivers {
		if !slices.Contains(m.ready, by.G) {
			m.goesOn(by, true, 0, 0)
		}
	}
}

// none: no case of a select can go.
func (m *model) none(g int, f *frame.Frame, x code.Ins) {
	cases := m.p.Cases[x.A : x.A+x.B]
	for place, c := range cases {
		if c.Way == code.WayElse {
			f.R[x.C] = int64(place)
			return
		}
	}
	for place, c := range cases {
		if c.Way == code.WayRecv {
			m.waits(g, c.Chan, place, true, 0)
		} else {
			m.waits(g, c.Chan, place, false, f.R[c.Reg])
		}
	}
}

// pure: what registers alone decide; At is behind the instruction already.
func (m *model) pure(f *frame.Frame, x code.Ins) {
	switch x.Op {
	case code.Const:
		f.R[x.A] = int64(x.B)
	case code.Move:
		f.R[x.A] = f.R[x.B]
	case code.Add:
		f.R[x.A] = f.R[x.B] + f.R[x.C]
	case code.Sub:
		f.R[x.A] = f.R[x.B] - f.R[x.C]
	case code.Mul:
		f.R[x.A] = f.R[x.B] * f.R[x.C]
	case code.Less:
		less := f.R[x.B] < f.R[x.C]
		f.R[x.A] = 0
		if less {
			f.R[x.A] = 1
		}
	case code.Jump:
		f.At = x.A
	case code.If:
		if f.R[x.A] != 0 {
			f.At = x.B
		}
	}
}

// tick does what Tick should.
func (m *model) tick() []int {
	if m.end != world.Runs {
		return nil
	}
	m.clock++
	var woken []int
	for _, x := range m.sleepers() {
		if x.At <= m.clock {
			woken = append(woken, x.ID)
			m.status[x.ID] = world.Ready
		}
	}
	m.asleep = slices.DeleteFunc(m.asleep, func(x heap.Item) bool { return x.At <= m.clock })
	return woken
}

// sleepers: in the order in which they wake.
func (m *model) sleepers() []heap.Item {
	l := slices.Clone(m.asleep)
	slices.SortFunc(l, func(a, b heap.Item) int { return cmp.Or(cmp.Compare(a.At, b.At), cmp.Compare(a.Seq, b.Seq)) })
	return l
}

// view is what a world of the same kind should show.
func (m *model) view() view {
	v := view{Status: m.status, Stacks: m.stacks, End: m.end, Why: m.why, Clock: m.clock, Out: m.out, Sleepers: m.sleepers()}
	for i := range api.MaxChan {
		var s chans.State
		if i < len(m.closed) {
			s = chans.State{Buffer: m.buffers[i], Senders: m.row(i, false), Receivers: m.row(i, true), Closed: m.closed[i]}
		}
		v.Chans = append(v.Chans, s)
	}
	for i := range api.MaxLock {
		owner, waits := locks.None, []int(nil)
		if i < len(m.lines) && len(m.lines[i]) > 0 {
			owner, waits = m.lines[i][0], m.lines[i][1:]
		}
		v.Owners = append(v.Owners, owner)
		v.Waits = append(v.Waits, waits)
	}
	v.Stuck = m.end == world.Runs && !slices.Contains(m.status, world.Ready) && !slices.Contains(m.status, world.Asleep)
	return v
}
