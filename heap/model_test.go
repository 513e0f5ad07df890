package heap_test

import (
	"math"
	"slices"
	"testing"

	"shunter/heap"
)

// model is a heap by the chapter's words: a plain list, in the order in which they came.
type model struct {
	list  []heap.Item
	count uint64 // so many came
}

// earliest is the place of who wakes first; -1: nobody sleeps.
func (m *model) earliest() int {
	place := -1
	for i, x := range m.list {
		if place < 0 || x.At < m.list[place].At { // of two with one time the one that came first
			place = i
		}
	}
	return place
}

// wakes cuts off who wakes by then.
func (m *model) wakes(now uint64) []heap.Item {
	var l []heap.Item
	for place := m.earliest(); place >= 0 && m.list[place].At <= now; place = m.earliest() {
		l = append(l, m.list[place])
		m.list = slices.Delete(m.list, place, place+1)
	}
	return l
}

// all: who sleeps, in the order in which they wake.
func (m *model) all() []heap.Item {
	other := model{list: slices.Clone(m.list)}
	return other.wakes(math.MaxUint64)
}

// agrees: does a heap tell of the same ones?
func (m *model) agrees(h *heap.Heap) bool {
	all := m.all()
	x, ok := h.Min()
	if len(all) == 0 {
		return x == heap.Item{} && !ok && h.Len() == 0 && len(h.List()) == 0
	}
	return x == all[0] && ok && h.Len() == len(all) && slices.Equal(h.List(), all)
}

// call is a call of a heap and of a model; false: their answers aren't the same.
type call func(h *heap.Heap, m *model) bool

func pushes(at uint64) call {
	return func(h *heap.Heap, m *model) bool {
		id := int(m.count*7%11) - 5
		m.list = append(m.list, heap.Item{At: at, Seq: m.count, ID: id})
		m.count++
		return h.Push(at, id) == m.count-1
	}
}

func cancels(seq uint64) call {
	return func(h *heap.Heap, m *model) bool {
		place := slices.IndexFunc(m.list, func(x heap.Item) bool { return x.Seq == seq })
		if place >= 0 {
			m.list = slices.Delete(m.list, place, place+1)
		}
		return h.Cancel(seq) == (place >= 0)
	}
}

func wakes(now uint64) call {
	return func(h *heap.Heap, m *model) bool {
		return slices.Equal(h.Wake(now), m.wakes(now))
	}
}

// runCalls: at which call a heap and its model aren't the same any more; -1: nowhere. Lists that were answered behind each call must stay as they were.
func runCalls(calls []call) int {
	var h heap.Heap
	var m model
	var lists, copies [][]heap.Item
	for i, c := range calls {
		if !c(&h, &m) || !m.agrees(&h) {
			return i
		}
		lists = append(lists, h.List())
		copies = append(copies, m.all())
	}
	if !slices.EqualFunc(lists, copies, slices.Equal) {
		return len(calls)
	}
	return -1
}

// P9.1, K3: all rows of six calls.
func TestAllShortRowsOfCalls(t *testing.T) {
	calls := []call{pushes(0), pushes(1), pushes(2), cancels(0), cancels(1), cancels(3), wakes(0), wakes(1)}
	for i := range 8 * 8 * 8 * 8 * 8 * 8 {
		var l []call
		for n := i; len(l) < 6; n /= len(calls) {
			l = append(l, calls[n%len(calls)])
		}
		if at := runCalls(l); at >= 0 {
			t.Fatalf("row %d: strays at call %d", i, at)
		}
	}
}

// P9.1, K3: many sleep, few times are there or many.
func TestLongRowsOfCalls(t *testing.T) {
	x := uint32(5)
	draw := func(n int) uint64 {
		x = x*1664525 + 1013904223
		return uint64(int(x>>8) % n)
	}
	for i := range 150 {
		most := []int{1, 2, 9, 100, 1 << 20}[i%5]
		var l []call
		for len(l) < 250 {
			switch n := draw(20); {
			case n == 0:
				l = append(l, wakes(draw(most/3+1)))
			case n < 6:
				l = append(l, cancels(draw(len(l)+3)))
			case n == 6:
				l = append(l, pushes(math.MaxUint64-draw(3)), pushes(draw(2)))
			default:
				l = append(l, pushes(draw(most)))
			}
		}
		if at := runCalls(l); at >= 0 {
			t.Fatalf("row %d: strays at call %d", i, at)
		}
	}
}
