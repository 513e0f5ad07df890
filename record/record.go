// Package record is layer 2: see shared/doc/02-record.md.
package record

import (
	"strings"

	"shunter/api"
	"shunter/leb"
)

// The kinds.
const (
	Pick   = iota + 1 // who goes on: a machine, or the clock
	Victim            // from which processor is stolen
	Case              // which case of those that can go
	Rand              // a number
)

// MostN is the greatest number of a decision.
const MostN = 1<<62 - 1

// kinds is how many kinds there are: a decision's number stands times so many, its kind besides.
const kinds = Rand

// Record is a decision: its kind, its number.
type Record struct {
	Kind int
	N    uint64
}

// Check: may it be?
func (r Record) Check() api.Errno {
	if r.Kind < Pick || r.Kind > Rand {
		return api.ErrKind
	}
	if r.N > MostN {
		return api.ErrBig
	}
	return api.OK
}

// Bytes: of one that may be.
func (r Record) Bytes() string {
	return leb.Put(r.N*kinds + uint64(r.Kind-Pick))
}

// Parse: the one that stands at a byte, the byte behind it.
func Parse(s string, at int) (Record, int, api.Errno) {
	n, end, err := leb.Get(s, at)
	if err != api.OK {
		return Record{}, 0, err
	}
	return Record{Kind: int(n%kinds) + Pick, N: n / kinds}, end, api.OK
}

// Bytes: of some, one behind the other.
func Bytes(l ...Record) string {
	var b strings.Builder
	for _, r := range l {
		b.WriteString(r.Bytes())
	}
	return b.String()
}

// All: those of a text, one behind the other, as far as they can be read; where it ends.
func All(s string) ([]Record, int) {
	var l []Record
	at := 0
	for {
		r, end, err := Parse(s, at)
		if err != api.OK {
			return l, at
		}
		l, at = append(l, r), end
	}
}
