package taper

import (
	"shunter/record"
	"shunter/source"
)

// shared is a source that somebody else has, too. It isn't watched, as they may do so: it is asked for all that it took.
type shared struct {
	draws *source.Source
}

func (s shared) last(n int) []record.Record {
	l := s.draws.Taken()
	return l[len(l)-n:]
}

// own is what a source took that nobody else has. It is told each draw: to ask the source would copy all draws at each step.
type own struct {
	taken []record.Record // since it was asked last
}

func (o *own) drew(r record.Record) {
	o.taken = append(o.taken, r)
}

func (o *own) last(n int) []record.Record {
	l := o.taken[len(o.taken)-n:]
	o.taken = nil
	return l
}
