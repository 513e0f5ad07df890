package sched

import (
	"shunter/local"
	"shunter/record"
	"shunter/world"
)

// Step: one.
func (s *Sched) Step() Event {
	if s.Status() != Going {
		return Event{}
	}
	e := s.picked(s.draws.Draw(record.Pick, len(s.machines)+1))
	// Behind all draws: if one panics, it is no step.
	s.steps++
	return e
}

// picked: the machine of a number does something, or, behind the last one, the clock.
func (s *Sched) picked(m int) Event {
	if m == len(s.machines) {
		return s.tick()
	}
	e := Event{M: m, G: None}
	switch x := s.machines[m]; {
	case x.P == None:
		e.Kind = s.hold(m)
	case x.G == None:
		e.Kind, e.G = s.look(m)
	default:
		e.Kind, e.G, e.Ready = Ran, x.G, s.run(m)
	}
	return e
}

// tick: the clock goes on.
func (s *Sched) tick() Event {
	woken := s.world.Tick()
	s.global.Put(woken...)
	return Event{Kind: Ticked, M: None, G: None, Ready: woken}
}

// hold: a machine takes the first processor that nobody holds, if there is one.
func (s *Sched) hold(m int) int {
	for i := range s.processors {
		if p := &s.processors[i]; p.by == None {
			p.by, s.machines[m].P = m, i
			return Held
		}
	}
	return Idle
}

// look: a machine that holds a processor looks for somebody: what it came to, and who goes on there.
func (s *Sched) look(m int) (kind, g int) {
	x := &s.machines[m]
	p := &s.processors[x.P]
	if x.Left > 0 && p.Next() != local.None {
		x.G, _ = p.Get()
		return Found, x.G
	}
	kind, g = s.newTurn(p)
	if kind == Parked {
		p.by = None
		*x = Machine{P: None, G: None}
		return kind, g
	}
	p.turns++
	x.G, x.Left = g, s.slice
	return kind, g
}

// newTurn: whom a processor's new turn is for, and where it was found; Parked, None: nobody.
func (s *Sched) newTurn(p *processor) (kind, g int) {
	p.Turn(&s.global)
	if g, ok := s.near(p); ok {
		return Found, g
	}
	if len(s.processors) > 1 {
		// Nobody stood in the queue, so Turn had nobody to put anywhere: if this draw panics, nothing has changed.
		from := s.draws.Draw(record.Victim, len(s.processors))
		if g, ok := p.Steal(s.processors[from].Local); ok {
			return Stole, g
		}
	}
	return Parked, None
}

// near: whoever comes first of a processor's queue, and the global row.
func (s *Sched) near(p *processor) (int, bool) {
	if p.turns%Every == Every-1 {
		if l := s.global.Take(1); len(l) > 0 {
			return l[0], true
		}
	}
	if g, ok := p.Get(); ok {
		return g, true
	}
	return p.Fetch(&s.global, 0)
}

// run: who goes on at a machine does an instruction: who can go on by it.
func (s *Sched) run(m int) []int {
	x := &s.machines[m]
	effect := s.world.Exec(x.G, s.draws.Draw)
	for _, g := range effect.Ready {
		s.processors[x.P].Ready(g, &s.global)
	}
	x.Left--
	if effect.Keep && x.Left > 0 {
		return effect.Ready
	}
	if s.world.Status(x.G) == world.Ready {
		s.global.Put(x.G)
	}
	x.G = None
	return effect.Ready
}
