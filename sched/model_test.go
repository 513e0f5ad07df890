package sched_test

import (
	"slices"

	"shunter/code"
	"shunter/record"
	"shunter/sched"
	"shunter/source"
	"shunter/world"
)

// model is a scheduler by the chapters' words, in plain lists; beside it a world of its own.
type model struct {
	c        sched.Config
	w        *world.World
	draws    *source.Source
	steps    int
	queues   []sched.Processor
	machines []sched.Machine
	global   []int
	seen     map[string]int // what happened how often
}

func newModel(p code.Program, c sched.Config, draws *source.Source, seen map[string]int) *model {
	m := &model{c: c, w: world.New(p), draws: draws, global: []int{0}, seen: seen}
	m.queues = slices.Repeat([]sched.Processor{{Next: -1, By: -1}}, c.P)
	m.machines = slices.Repeat([]sched.Machine{{P: -1, G: -1}}, c.M)
	return m
}

func (m *model) status() int {
	end, _ := m.w.End()
	if end == world.Runs && m.w.Stuck() {
		return 3
	}
	return map[int]int{world.Runs: 0, world.Halted: 1, world.Trapped: 2}[end]
}

// step answers what Step should, or what it should panic with.
func (m *model) step() (e sched.Event, x any) {
	if m.status() != 0 {
		return e, nil
	}
	kept := *m
	kept.queues, kept.machines, kept.global = slices.Clone(m.queues), slices.Clone(m.machines), slices.Clone(m.global)
	for i, q := range m.queues {
		kept.queues[i].Ring = slices.Clone(q.Ring)
	}
	defer func() {
		if x = recover(); x != nil {
			e, *m = sched.Event{}, kept
		}
	}()
	e = m.picked(m.draws.Draw(record.Pick, m.c.M+1))
	m.steps++
	return e, nil
}

func (m *model) picked(number int) sched.Event {
	if number == m.c.M {
		l := m.w.Tick()
		m.global = append(m.global, l...)
		return sched.Event{Kind: 1, M: -1, G: -1, Ready: l}
	}
	x := &m.machines[number]
	if x.P == -1 {
		for i := range m.queues {
			if m.queues[i].By == -1 {
				m.queues[i].By, x.P = number, i
				return sched.Event{Kind: 2, M: number, G: -1}
			}
		}
		return sched.Event{Kind: 3, M: number, G: -1}
	}
	if x.G == -1 {
		kind := m.looks(x, &m.queues[x.P])
		return sched.Event{Kind: kind, M: number, G: x.G}
	}
	e := sched.Event{Kind: 7, M: number, G: x.G}
	e.Ready = m.instruction(x, &m.queues[x.P])
	return e
}

// looks: what the step is; who goes on stands in the machine.
func (m *model) looks(x *sched.Machine, q *sched.Processor) int {
	if x.Left > 0 && q.Next != -1 {
		m.seen["found within a turn"]++
		x.G, q.Next = q.Next, -1
		return 4
	}
	kind, g := m.newTurn(x, q)
	if kind == 6 {
		q.By, x.P, x.Left = -1, -1, 0
		return 6
	}
	x.G, x.Left = g, m.c.Slice
	q.Turns++
	return kind
}

func (m *model) newTurn(x *sched.Machine, q *sched.Processor) (int, int) {
	if g := q.Next; g != -1 {
		q.Next = -1
		m.put(q, g, "turn")
	}
	if q.Turns%7 == 6 && len(m.global) > 0 {
		if len(q.Ring) > 0 {
			m.seen["seventh, ahead of the ring"]++
		}
		return 4, takeFirst(&m.global)
	}
	if q.Turns%7 == 6 {
		m.seen["seventh, without the global row"]++
	}
	if len(q.Ring) > 0 {
		return 4, takeFirst(&q.Ring)
	}
	if len(m.global) > 0 {
		return 4, takeFirst(&m.global)
	}
	if m.c.P == 1 {
		m.seen["parked, of one"]++
		return 6, -1
	}
	from := &m.queues[m.draws.Draw(record.Victim, m.c.P)]
	if from == q {
		m.seen["parked, of its own"]++
		return 6, -1
	}
	if half := (len(from.Ring) + 1) / 2; half > 0 {
		g := takeFirst(&from.Ring)
		for range half - 1 {
			m.seen["stole several"]++
			q.Ring = append(q.Ring, takeFirst(&from.Ring))
		}
		return 5, g
	}
	if g := from.Next; g != -1 {
		m.seen["stole who goes next"]++
		from.Next = -1
		return 5, g
	}
	return 6, -1
}

func (m *model) instruction(x *sched.Machine, q *sched.Processor) []int {
	e := m.w.Exec(x.G, m.draws.Draw)
	for _, g := range e.Ready {
		if q.Next != -1 {
			m.put(q, q.Next, "ready")
		}
		q.Next = g
	}
	x.Left--
	if x.Left == 0 || !e.Keep {
		if m.w.Status(x.G) == world.Ready {
			m.global = append(m.global, x.G)
		}
		x.G = -1
	}
	if len(e.Ready) > 1 {
		m.seen["several ready"]++
	}
	return e.Ready
}

// put: into the ring, or half of it, and the one, into the global row.
func (m *model) put(q *sched.Processor, g int, when string) {
	if len(q.Ring) < m.c.Ring {
		q.Ring = append(q.Ring, g)
		return
	}
	m.seen["runs over, by "+when]++
	for range m.c.Ring / 2 {
		m.global = append(m.global, takeFirst(&q.Ring))
	}
	m.global = append(m.global, g)
}

// takeFirst: the eldest of a list that has some.
func takeFirst(l *[]int) int {
	g := (*l)[0]
	*l = slices.Clone((*l)[1:])
	return g
}

// agrees: does a scheduler show what the model has?
func (m *model) agrees(s *sched.Sched) bool {
	same := func(a, b sched.Processor) bool {
		return a.Next == b.Next && slices.Equal(a.Ring, b.Ring) && a.Turns == b.Turns && a.By == b.By
	}
	return s.Steps() == m.steps && s.Status() == m.status() && slices.EqualFunc(s.Processors(), m.queues, same) &&
		slices.Equal(s.Machines(), m.machines) && slices.Equal(s.Global(), m.global)
}
