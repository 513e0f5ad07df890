package heap_test

import (
	"cmp"
	"math"
	"slices"
	"testing"

	"shunter/heap"
)

// check holds a heap against who sleeps, in the order in which they wake.
func check(t *testing.T, name string, h *heap.Heap, want ...heap.Item) {
	t.Helper()
	if h.Len() != len(want) || !slices.Equal(h.List(), want) {
		t.Errorf("%s: %v, Len %d, not %v", name, h.List(), h.Len(), want)
	}
	x, ok := h.Min()
	if len(want) == 0 {
		if x != (heap.Item{}) || ok {
			t.Errorf("%s: Min of none: %v, %t", name, x, ok)
		}
	} else if x != want[0] || !ok {
		t.Errorf("%s: Min: %v, %t, not %v", name, x, ok, want[0])
	}
}

// push puts one in, whose number is known.
func push(t *testing.T, h *heap.Heap, at uint64, id int, want uint64) {
	t.Helper()
	if seq := h.Push(at, id); seq != want {
		t.Errorf("Push(%d, %d): %d, not %d", at, id, seq, want)
	}
}

func wake(t *testing.T, h *heap.Heap, now uint64, want ...heap.Item) {
	t.Helper()
	if l := h.Wake(now); !slices.Equal(l, want) {
		t.Errorf("Wake(%d): %v, not %v", now, l, want)
	}
}

func cancel(t *testing.T, h *heap.Heap, seq uint64, want bool) {
	t.Helper()
	if h.Cancel(seq) != want {
		t.Errorf("Cancel(%d): %t", seq, !want)
	}
}

// sleeping is a heap of those that sleep until those times, and they, in the order in which they wake; the IDs are the numbers, turned below 0.
func sleeping(t *testing.T, times ...uint64) (*heap.Heap, []heap.Item) {
	t.Helper()
	h := &heap.Heap{}
	var l []heap.Item
	for i, at := range times {
		push(t, h, at, -i, uint64(i))
		l = append(l, heap.Item{At: at, Seq: uint64(i), ID: -i})
	}
	slices.SortStableFunc(l, func(a, b heap.Item) int { return cmp.Compare(a.At, b.At) })
	return h, l
}

// without is a list without the one at a place.
func without(l []heap.Item, place int) []heap.Item {
	return slices.Delete(slices.Clone(l), place, place+1)
}

// times are rows of times of each sort: equal ones, ones that rise, fall, go up and down, the lowest and the highest one.
func times() [][]uint64 {
	l := [][]uint64{
		nil, {0}, {5}, {math.MaxUint64}, {0, math.MaxUint64}, {math.MaxUint64, 0},
		{math.MaxUint64, 0, math.MaxUint64, 0, 1, math.MaxUint64 - 1, 1 << 63, 1<<63 - 1, 1 << 32, 1<<32 - 1, 0},
		{9, 3, 7, 3, 12, 1, 7, 7, 0, 20, 2},
		{1, 100, 2, 3, 4, 101, 102, 103, 104, 5, 6, 7, 8, 9, 10, 11, 12, 13, 14, 15, 16, 105},
	}
	for _, n := range []int{2, 4, 5, 6, 21, 22, 40} {
		var equal, rising, falling, mixed []uint64
		for i := range n {
			equal = append(equal, 7)
			rising = append(rising, uint64(10+i))
			falling = append(falling, uint64(100-i))
			mixed = append(mixed, uint64(i*13%n/2))
		}
		l = append(l, equal, rising, falling, mixed)
	}
	return l
}

// P9.1
func TestAZeroHeap(t *testing.T) {
	var h heap.Heap
	check(t, "a zero one", &h)
	for _, n := range []uint64{0, 1, math.MaxUint64} {
		wake(t, &h, n)
		cancel(t, &h, n, false)
	}
	check(t, "behind calls", &h)
	push(t, &h, 0, 0, 0)
	check(t, "one", &h, heap.Item{})
	if x, ok := h.Min(); x != (heap.Item{}) || !ok {
		t.Errorf("Min of the one of zeros: %v, %t", x, ok)
	}
}

// P9.1
func TestOrder(t *testing.T) {
	for _, l := range times() {
		h, want := sleeping(t, l...)
		check(t, "all", h, want...)
		wake(t, h, math.MaxUint64, want...)
		check(t, "behind Wake of all", h)
	}
}

// P9.1
func TestMinBehindEachPush(t *testing.T) {
	for _, l := range times() {
		for n := range l {
			h, want := sleeping(t, l[:n]...)
			check(t, "so many", h, want...)
		}
	}
}

// P9.1: a row of times in each order there is.
func TestEachOrder(t *testing.T) {
	var put func(head, rest []uint64)
	put = func(head, rest []uint64) {
		if len(rest) == 0 {
			h, want := sleeping(t, head...)
			check(t, "an order", h, want...)
			cancel(t, h, 3, true)
			place := slices.IndexFunc(want, func(x heap.Item) bool { return x.Seq == 3 })
			check(t, "an order, behind Cancel", h, without(want, place)...)
			wake(t, h, math.MaxUint64, without(want, place)...)
		}
		for i := range rest {
			put(append(slices.Clone(head), rest[i]), slices.Delete(slices.Clone(rest), i, i+1))
		}
	}
	put(nil, []uint64{1, 2, 2, 3, 4, 5, 6})
}

// P9.1
func TestCancel(t *testing.T) {
	for _, l := range times() {
		for place := range l {
			h, want := sleeping(t, l...)
			cancel(t, h, want[place].Seq, true)
			check(t, "Cancel", h, without(want, place)...)
			cancel(t, h, want[place].Seq, false)
			check(t, "Cancel of one that is cancelled", h, without(want, place)...)
			wake(t, h, math.MaxUint64, without(want, place)...)
		}
	}
}

// P9.1: one behind the other, from the first, from the last, and from the middle.
func TestCancelOfAll(t *testing.T) {
	for _, l := range times() {
		for _, which := range []func(int) int{
			func(int) int { return 0 },
			func(n int) int { return n - 1 },
			func(n int) int { return n / 2 },
		} {
			h, want := sleeping(t, l...)
			for len(want) > 0 {
				place := which(len(want))
				cancel(t, h, want[place].Seq, true)
				want = without(want, place)
				check(t, "Cancel", h, want...)
			}
			wake(t, h, math.MaxUint64)
			push(t, h, 3, 3, uint64(len(l)))
		}
	}
}

// P9.1
func TestCancelOfANumberThatWasNeverGiven(t *testing.T) {
	for _, l := range times() {
		h, want := sleeping(t, l...)
		n := uint64(len(l))
		for _, seq := range []uint64{n, n + 1, n + 4, 1000, 1 << 32, 1<<32 + n/2, 1 << 63, math.MaxUint64 - 1, math.MaxUint64} {
			cancel(t, h, seq, false)
		}
		check(t, "Cancel", h, want...)
		push(t, h, 3, 3, n)
	}
}

// P9.1: Cancel is by numbers, neither by times nor by IDs.
func TestCancelIsByNumbers(t *testing.T) {
	var h heap.Heap
	push(t, &h, 1, 2, 0)
	push(t, &h, 2, 0, 1)
	push(t, &h, 0, 1, 2)
	cancel(t, &h, 0, true)
	check(t, "Cancel", &h, heap.Item{At: 0, Seq: 2, ID: 1}, heap.Item{At: 2, Seq: 1, ID: 0})
	cancel(t, &h, 0, false)
	cancel(t, &h, 2, true)
	check(t, "Cancel", &h, heap.Item{At: 2, Seq: 1, ID: 0})
}

// P9.1
func TestWake(t *testing.T) {
	for _, l := range times() {
		nows := []uint64{0, 1, math.MaxUint64 - 1, math.MaxUint64}
		for _, at := range l {
			nows = append(nows, at, at-1, at+1)
		}
		for _, now := range nows {
			h, want := sleeping(t, l...)
			n := 0
			for n < len(want) && want[n].At <= now {
				n++
			}
			wake(t, h, now, want[:n]...)
			check(t, "Wake", h, want[n:]...)
			wake(t, h, now)
			check(t, "Wake once more", h, want[n:]...)
			for _, x := range want[:n] {
				cancel(t, h, x.Seq, false)
			}
			check(t, "Cancel of who woke", h, want[n:]...)
			wake(t, h, math.MaxUint64, want[n:]...)
			check(t, "Wake of all", h)
		}
	}
}

// P9.1: the time may go back, and one may sleep until a time that was.
func TestWakeOfEarlierTimes(t *testing.T) {
	h, l := sleeping(t, 5, 9, 20)
	wake(t, h, 9, l[:2]...)
	wake(t, h, 3)
	push(t, h, 2, 8, 3)
	wake(t, h, 1)
	check(t, "one more", h, heap.Item{At: 2, Seq: 3, ID: 8}, l[2])
	wake(t, h, 2, heap.Item{At: 2, Seq: 3, ID: 8})
	check(t, "it woke", h, l[2])
}

// P9.1
func TestNumbersGoOn(t *testing.T) {
	var h heap.Heap
	push(t, &h, 4, 0, 0)
	push(t, &h, 4, 0, 1)
	cancel(t, &h, 1, true)
	push(t, &h, 4, 0, 2)
	wake(t, &h, 4, heap.Item{At: 4}, heap.Item{At: 4, Seq: 2})
	push(t, &h, 4, 0, 3)
	cancel(t, &h, 3, true)
	cancel(t, &h, 4, false)
	wake(t, &h, 9)
	push(t, &h, 0, 0, 4)
	push(t, &h, 0, 0, 5)
	check(t, "behind all", &h, heap.Item{Seq: 4}, heap.Item{Seq: 5})
}

// P9.1: who has a time goes ahead of who got the same one later, whoever went between.
func TestEqualTimesBehindOthers(t *testing.T) {
	var h heap.Heap
	var want []heap.Item
	for i := range uint64(50) {
		push(t, &h, 6, 1, 2*i)
		push(t, &h, i%9, 2, 2*i+1)
		want = append(want, heap.Item{At: 6, Seq: 2 * i, ID: 1})
		if i%3 == 0 {
			cancel(t, &h, 2*i+1, true)
		}
		h.Wake(5)
	}
	for i := range uint64(50) {
		h.Cancel(2*i + 1)
	}
	check(t, "equal times", &h, want...)
	wake(t, &h, 6, want...)
}

// P9.1: who they are is nothing to a heap.
func TestAnyIDs(t *testing.T) {
	var h heap.Heap
	ids := []int{math.MaxInt, 0, -1, 0, math.MinInt, 7, 7}
	var want []heap.Item
	for i, id := range ids {
		push(t, &h, 5, id, uint64(i))
		want = append(want, heap.Item{At: 5, Seq: uint64(i), ID: id})
	}
	check(t, "any IDs", &h, want...)
	wake(t, &h, 5, want...)
}

// spoil writes all over a list, and over what room it has behind its end.
func spoil(l []heap.Item) {
	l = l[:cap(l)]
	for i := range l {
		l[i] = heap.Item{At: 1, Seq: 2, ID: 3}
	}
}

// K3
func TestListsAreTheCallersOwn(t *testing.T) {
	for _, l := range times() {
		h, want := sleeping(t, l...)
		spoil(h.List())
		check(t, "a list was written to", h, want...)
		n := len(want) / 2
		if n == 0 {
			continue
		}
		h, want = sleeping(t, l...)
		one := want[n-1].At
		for n < len(want) && want[n].At == one {
			n++
		}
		spoil(h.Wake(one))
		check(t, "who woke was written to", h, want[n:]...)
		first, other := h.List(), h.List()
		spoil(first)
		if !slices.Equal(other, want[n:]) {
			t.Errorf("two lists share memory: %v", other)
		}
	}
}

// K3
func TestListsStayWhileTheHeapGoesOn(t *testing.T) {
	for _, l := range times() {
		h, want := sleeping(t, l...)
		all := h.List()
		woken := h.Wake(8)
		left := h.List()
		for i := range uint64(3 * len(l)) {
			h.Push(100-i, 9)
			h.Wake(3)
			h.Cancel(i)
		}
		h.Wake(math.MaxUint64)
		if !slices.Equal(all, want) || !slices.Equal(slices.Concat(woken, left), want) {
			t.Errorf("lists became %v, %v, %v", all, woken, left)
		}
	}
}

// K4
func TestHeapsShareNothing(t *testing.T) {
	var a, b heap.Heap
	push(t, &a, 5, 1, 0)
	push(t, &a, 4, 2, 1)
	push(t, &b, 3, 3, 0)
	cancel(t, &b, 1, false)
	wake(t, &a, 4, heap.Item{At: 4, Seq: 1, ID: 2})
	check(t, "one", &a, heap.Item{At: 5, ID: 1})
	check(t, "another", &b, heap.Item{At: 3, ID: 3})
}

// P9.1: the chapter's example.
func TestExample(t *testing.T) {
	var h heap.Heap
	push(t, &h, 5, 1, 0)
	push(t, &h, 3, 2, 1)
	push(t, &h, 5, 3, 2)
	wake(t, &h, 5, heap.Item{At: 3, Seq: 1, ID: 2}, heap.Item{At: 5, Seq: 0, ID: 1}, heap.Item{At: 5, Seq: 2, ID: 3})
	check(t, "the example", &h)
}
