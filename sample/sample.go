// Package sample makes programs, configs and numbers by chance: what the tests of several layers are fed with.
package sample

import (
	"slices"

	"shunter/api"
	"shunter/code"
	"shunter/record"
	"shunter/sched"
)

// Chance is where it comes from.
type Chance interface {
	Intn(n int) int
	Uint64() uint64
}

// Some is one of a few, each as often as it stands there.
func Some[T any](r Chance, l ...T) T {
	return l[r.Intn(len(l))]
}

// Config is one that may be.
func Config(r Chance) sched.Config {
	return sched.Config{P: Some(r, 1, 2, 2, 2, 3, 3, 4, 64), M: Some(r, 1, 2, 2, 3, 3, 4, 4, 64), Ring: Some(r, 2, 2, 3, 4, 7, 1024), Slice: Some(r, 1, 1, 2, 3, 5, 9, 40, 1024)}
}

// Numbers are an oracle's; by each of some the clock is seldom picked.
func Numbers(r Chance, c sched.Config, many int) []uint64 {
	l := make([]uint64, many)
	seldom := r.Intn(2) == 0
	for i := range l {
		l[i] = r.Uint64() >> r.Intn(64)
		if seldom && l[i]%uint64(c.M+1) == uint64(c.M) && r.Intn(8) > 0 {
			l[i] = uint64(r.Intn(c.M))
		}
	}
	return l
}

// Decisions are a tape's: mostly none, else such that many a run strays at soon.
func Decisions(r Chance) []record.Record {
	var l []record.Record
	for range Some(r, 0, 0, 0, 5, 30) {
		l = append(l, record.Record{Kind: Some(r, 1, 1, 1, 1, 1, 1, 2, 3, 4), N: uint64(r.Intn(3))})
	}
	return l
}

// Program is one that may be, of many goroutines that wait for each other, sleep and draw.
func Program(r Chance) code.Program {
	m := &maker{r: r, closes: r.Intn(5) == 0}
	ways := []int{0, 0, 0, 1, 1, 1, 2}
	if m.closes {
		ways = []int{0}
	}
	m.p = code.Program{Funcs: make([][]code.Ins, 2+r.Intn(3)), Locks: 1 + r.Intn(2)}
	for range 1 + r.Intn(4) {
		m.p.Chans = append(m.p.Chans, Some(r, 0, 0, 1, 2, 16))
	}
	for range 1 + r.Intn(8) {
		m.p.Cases = append(m.p.Cases, code.Case{Way: Some(r, ways...), Chan: r.Intn(len(m.p.Chans)), Reg: m.reg()})
	}
	var begin []code.Ins
	for range r.Intn(Some(r, 2, 12, 30)) {
		begin = append(begin, code.Ins{Op: code.Spawn, A: 1 + r.Intn(len(m.p.Funcs)-1), B: m.reg(), C: m.reg()})
	}
	m.p.Funcs[0] = m.fun(begin)
	if m.closes {
		m.p.Funcs[0] = m.closer(begin)
	}
	for i := range m.p.Funcs[1:] {
		m.at = i + 1
		m.p.Funcs[i+1] = m.fun(nil)
	}
	return m.p
}

// maker makes a program.
type maker struct {
	r      Chance
	p      code.Program
	at     int  // which function is being made
	closes bool // nobody sends: the first function closes what others wait for
}

func (m *maker) reg() int { return m.r.Intn(4) }

// fun is a function that begins with some instructions.
func (m *maker) fun(l []code.Ins) []code.Ins {
	begun := len(l)
	for many := begun + 2 + m.r.Intn(14); len(l) < many; {
		l = append(l, m.snippet()...)
	}
	l = l[:min(len(l), api.MaxCode-1)]
	if m.r.Intn(4) > 0 {
		return append(l, code.Ins{Op: code.Jump, A: min(begun, len(l)-1)})
	}
	return append(l, code.Ins{Op: code.Return, A: m.reg()})
}

// closer begins with some instructions, and closes each channel, when others had time to wait there.
func (m *maker) closer(l []code.Ins) []code.Ins {
	for channel := range m.p.Chans {
		l = append(l, slices.Repeat([]code.Ins{{Op: code.Yield}}, m.r.Intn(6))...)
		l = append(l, code.Ins{Op: code.Close, A: channel})
	}
	return append(l, code.Ins{Op: code.Yield}, code.Ins{Op: code.Jump, A: len(l)})
}

// snippet is some instructions that stand one behind the other.
func (m *maker) snippet() []code.Ins {
	channel, lock, first := m.r.Intn(len(m.p.Chans)), m.r.Intn(m.p.Locks), m.r.Intn(len(m.p.Cases))
	switch k := m.r.Intn(40); {
	case k < 5 && !m.closes:
		return []code.Ins{{Op: code.Send, A: channel, B: m.reg()}}
	case k < 10:
		return []code.Ins{{Op: code.Recv, A: channel, B: m.reg(), C: m.reg()}}
	case k < 15:
		return []code.Ins{{Op: code.Select, A: first, B: 1 + m.r.Intn(min(len(m.p.Cases)-first, 4)), C: m.reg()}}
	case k < 18:
		r := m.reg()
		return []code.Ins{{Op: code.Const, A: r, B: m.r.Intn(5)}, {Op: code.Sleep, A: r}}
	case k < 21:
		return slices.Concat([]code.Ins{{Op: code.Lock, A: lock}}, m.snippet(), []code.Ins{{Op: code.Unlock, A: lock}})
	case k < 25:
		return []code.Ins{{Op: code.Rand, A: m.reg(), B: Some(m.r, 1, 2, 3, 1000, 1<<40-1)}}
	case k < 29:
		return []code.Ins{{Op: code.Yield}}
	case k < 32:
		return []code.Ins{{Op: code.Spawn, A: 1 + m.r.Intn(len(m.p.Funcs)-1), B: m.reg(), C: m.reg()}}
	case k < 33:
		return []code.Ins{{Op: code.Emit, A: m.reg()}}
	case k < 34 && m.r.Intn(3) == 0 && !m.closes:
		return []code.Ins{Some(m.r, code.Ins{Op: code.Close, A: channel}, code.Ins{Op: code.Trap, A: m.r.Intn(9)}, code.Ins{Op: code.Unlock, A: lock})}
	case k < 35 && m.at < len(m.p.Funcs)-1:
		return m.call()
	}
	return []code.Ins{{Op: code.Add, A: m.reg(), B: m.reg(), C: m.reg()}}
}

// call is one of a function behind this one, so that no calls go on for ever.
func (m *maker) call() []code.Ins {
	behind := m.at + 1
	return []code.Ins{{Op: code.Call, A: behind + m.r.Intn(len(m.p.Funcs)-behind), B: m.reg(), C: m.reg()}}
}
