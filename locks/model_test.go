package locks_test

import (
	"slices"
	"testing"

	"shunter/api"
	"shunter/locks"
)

// line is a lock by the chapter's words: those that came and haven't given it yet, the first of whom has it.
type line []int

func (l line) owner() int {
	if len(l) == 0 {
		return locks.None
	}
	return l[0]
}

// waits: who stands behind the first one.
func (l line) waits() []int {
	return slices.Clone(l[min(1, len(l)):])
}

func (l line) give(g int) (line, int, api.Errno) {
	if l.owner() != g {
		return l, locks.None, api.ErrNone
	}
	l = l[1:]
	return l, l.owner(), api.OK
}

// both are a lock and a line, and who had it: as the lock told, and as they came.
type both struct {
	lock *locks.Lock
	line line
	came []int
	had  []int
}

// take: false: the answers aren't the same.
func (b *both) take(g int) bool {
	b.line = append(slices.Clone(b.line), g)
	b.came = append(b.came, g)
	ok := b.lock.Take(g)
	if ok {
		b.had = append(b.had, g)
	}
	return ok == (len(b.line) == 1)
}

func (b *both) give(g int) bool {
	next, err := b.lock.Give(g)
	if next != locks.None {
		b.had = append(b.had, next)
	}
	left, want, wantErr := b.line.give(g)
	b.line = left
	return next == want && err == wantErr
}

// clone goes on with a clone; who was cloned is spoilt.
func (b *both) clone() {
	c := b.lock.Clone()
	goOn(b.lock)
	b.lock = c
}

// agrees: is the lock as the line, and did all have it one behind the other, in the order in which they came?
func (b *both) agrees() bool {
	one := len(b.had) == len(b.came)-len(b.lock.Waits()) && slices.Equal(b.had, b.came[:len(b.had)])
	return one && b.lock.Owner() == b.line.owner() && slices.Equal(b.lock.Waits(), b.line.waits())
}

// P14.1, P14.2: all rows of seven calls, of three that take and give.
func TestAllShortRowsOfCalls(t *testing.T) {
	for i := range 6 * 6 * 6 * 6 * 6 * 6 * 6 {
		b := &both{lock: locks.New()}
		n := i
		for at := range 7 {
			do := b.take
			if n%2 == 1 {
				do = b.give
			}
			if !do(n/2%3) || !b.agrees() {
				t.Fatalf("row %d: strays at call %d", i, at)
			}
			n /= 6
		}
	}
}

// P14.1, P14.2, K3: few or many take it, and what was answered behind each call stays.
func TestLongRowsOfCalls(t *testing.T) {
	x := uint32(13)
	draw := func(n int) int {
		x = x*1664525 + 1013904223
		return int(x>>8) % n
	}
	for i := range 200 {
		most := []int{1, 2, 5, 100}[i%4]
		b := &both{lock: locks.New()}
		var lists, copies [][]int
		for at := range 200 {
			g, ok := draw(most), true
			switch n := draw(20); {
			case n < 9-i%3:
				ok = b.take(g)
			case n < 11:
				ok = b.give(g)
			case n == 11:
				b.clone()
			case b.line.owner() != locks.None:
				ok = b.give(b.line.owner())
			}
			if !ok || !b.agrees() {
				t.Fatalf("row %d: strays at call %d", i, at)
			}
			lists = append(lists, b.lock.Waits())
			copies = append(copies, b.line.waits())
		}
		if !slices.EqualFunc(lists, copies, slices.Equal) {
			t.Fatalf("row %d: lists that were answered changed", i)
		}
	}
}
