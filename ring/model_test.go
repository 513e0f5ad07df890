package ring_test

import (
	"slices"
	"testing"

	"shunter/ring"
)

// model is a ring by the chapter's words: a plain list, and how long it may be.
type model struct {
	list []int
	room int
	next int // what is put in next, so that no two numbers are the same
}

// both are a call of a ring and of a model; false: their answers aren't the same.
type both func(r *ring.Ring, m *model) bool

func pushes(r *ring.Ring, m *model) bool {
	m.next++
	fits := len(m.list) < m.room
	if fits {
		m.list = append(m.list, m.next)
	}
	return r.Push(m.next) == fits
}

func pops(r *ring.Ring, m *model) bool {
	v, ok := r.Pop()
	if len(m.list) == 0 {
		return v == 0 && !ok
	}
	want := m.list[0]
	m.list = slices.Delete(m.list, 0, 1)
	return v == want && ok
}

func takes(n int) both {
	return func(r *ring.Ring, m *model) bool {
		var want []int
		for len(want) < n && len(m.list) > 0 {
			want = append(want, m.list[0])
			m.list = slices.Delete(m.list, 0, 1)
		}
		return slices.Equal(r.Take(n), want)
	}
}

func takesHalf(r *ring.Ring, m *model) bool {
	return takes(len(m.list)/2)(r, m)
}

func (m *model) agrees(r *ring.Ring) bool {
	return r.Room() == m.room && r.Len() == len(m.list) && slices.Equal(r.List(), m.list)
}

// runCalls: at which call a ring and its model aren't the same any more; -1: nowhere. Lists that were answered at each call must stay as they were.
func runCalls(calls []both, room int) int {
	r, m := ring.New(room), &model{room: room}
	var lists, copies [][]int
	for i, c := range calls {
		if !c(r, m) || !m.agrees(r) {
			return i
		}
		lists = append(lists, r.List())
		copies = append(copies, slices.Clone(m.list))
	}
	if !slices.EqualFunc(lists, copies, slices.Equal) {
		return len(calls)
	}
	return -1
}

// P7.1, K3
func TestAllShortRowsOfCalls(t *testing.T) {
	calls := []both{pushes, pushes, pops, takes(0), takes(2), takesHalf}
	for i := range 6 * 6 * 6 * 6 * 6 * 6 {
		var l []both
		for n := i; len(l) < 6; n /= len(calls) {
			l = append(l, calls[n%len(calls)])
		}
		if at := runCalls(l, i%3+1); at >= 0 {
			t.Fatalf("row %d: strays at call %d", i, at)
		}
	}
}

// P7.1, K3
func TestLongRowsOfCalls(t *testing.T) {
	calls := []both{pushes, pushes, pushes, pushes, pushes, pops, pops, takes(-1), takes(1), takes(3), takes(1000), takesHalf}
	x := uint32(7)
	for i := range 300 {
		var l []both
		for range 300 {
			x = x*1664525 + 1013904223
			l = append(l, calls[int(x>>8)%len(calls)])
		}
		if at := runCalls(l, i%12+1); at >= 0 {
			t.Fatalf("row %d: strays at call %d", i, at)
		}
	}
}
