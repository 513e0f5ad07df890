package ring_test

import (
	"math"
	"slices"
	"testing"

	"shunter/ring"
)

// check holds a ring against its room, and the numbers in it.
func check(t *testing.T, name string, r *ring.Ring, room int, want ...int) {
	t.Helper()
	if r.Room() != room || r.Len() != len(want) || !slices.Equal(r.List(), want) {
		t.Errorf("%s: %v, Len %d, Room %d, not %v, Room %d", name, r.List(), r.Len(), r.Room(), want, room)
	}
}

// push puts numbers in, for which there is room.
func push(t *testing.T, r *ring.Ring, l ...int) {
	t.Helper()
	for _, v := range l {
		if !r.Push(v) {
			t.Errorf("Push(%d): false, with Len %d, Room %d", v, r.Len(), r.Room())
		}
	}
}

// pop takes numbers out that are the eldest.
func pop(t *testing.T, r *ring.Ring, l ...int) {
	t.Helper()
	for _, want := range l {
		if v, ok := r.Pop(); v != want || !ok {
			t.Errorf("Pop: %d, %t, not %d", v, ok, want)
		}
	}
}

// popNone asks a ring without numbers for one.
func popNone(t *testing.T, r *ring.Ring) {
	t.Helper()
	if v, ok := r.Pop(); v != 0 || ok {
		t.Errorf("Pop of none: %d, %t", v, ok)
	}
}

// row is so many numbers one behind the other.
func row(from, many int) []int {
	var l []int
	for v := range many {
		l = append(l, from+v)
	}
	return l
}

// standing is a ring whose eldest one stands at a place, with the numbers 100, 101 ..
func standing(t *testing.T, room, place, many int) *ring.Ring {
	t.Helper()
	r := ring.New(room)
	for range place {
		push(t, r, -1)
		pop(t, r, -1)
	}
	push(t, r, row(100, many)...)
	return r
}

// P7.1
func TestNew(t *testing.T) {
	for _, c := range []struct{ room, counts int }{
		{math.MinInt, 1}, {-1024, 1}, {-3, 1}, {-1, 1}, {0, 1}, {1, 1}, {2, 2}, {3, 3}, {4, 4}, {7, 7}, {1000, 1000},
		{1023, 1023}, {1024, 1024}, {1025, 1024}, {5000, 1024}, {math.MaxInt, 1024},
	} {
		r := ring.New(c.room)
		check(t, "New", r, c.counts)
		popNone(t, r)
		push(t, r, row(5, c.counts)...)
		for range 3 {
			if r.Push(9) {
				t.Errorf("room %d: Push into a full one", c.room)
			}
		}
		check(t, "full", r, c.counts, row(5, c.counts)...)
		pop(t, r, row(5, c.counts)...)
		popNone(t, r)
		check(t, "empty again", r, c.counts)
	}
}

// P7.1
func TestPushIntoAFullOne(t *testing.T) {
	for room := 1; room < 10; room++ {
		for place := range room {
			r := standing(t, room, place, room)
			if r.Push(7) || r.Push(0) {
				t.Errorf("room %d, place %d: Push into a full one", room, place)
			}
			check(t, "Push into a full one", r, room, row(100, room)...)
			pop(t, r, 100)
			push(t, r, 8)
			if r.Push(9) {
				t.Errorf("room %d, place %d: Push into one that is full again", room, place)
			}
			check(t, "full again", r, room, append(row(101, room-1), 8)...)
		}
	}
}

// P7.1
func TestPopOfNone(t *testing.T) {
	for room := 1; room < 10; room++ {
		for place := range 2*room + 1 {
			r := standing(t, room, place, 0)
			for range 3 {
				popNone(t, r)
			}
			check(t, "Pop of none", r, room)
			push(t, r, row(0, room)...)
			pop(t, r, row(0, room)...)
			popNone(t, r)
		}
	}
}

// P7.1
func TestTakeAtEachPlace(t *testing.T) {
	for room := 1; room < 9; room++ {
		for place := range room {
			for many := range room + 1 {
				for _, n := range append(row(-1, room+4), math.MinInt, -1000, 1000, math.MaxInt) {
					r := standing(t, room, place, many)
					check(t, "ahead of Take", r, room, row(100, many)...)
					taken := min(max(n, 0), many)
					if l := r.Take(n); !slices.Equal(l, row(100, taken)) {
						t.Errorf("room %d, place %d: Take(%d) of %d: %v", room, place, n, many, l)
					}
					left := row(100+taken, many-taken)
					check(t, "Take", r, room, left...)
					more := row(200, room-len(left))
					push(t, r, more...)
					if r.Push(7) {
						t.Errorf("room %d, place %d: behind Take(%d) of %d: Push into a full one", room, place, n, many)
					}
					check(t, "full behind Take", r, room, append(left, more...)...)
				}
			}
		}
	}
}

// P7.1
func TestTakeOfWhatIsFull(t *testing.T) {
	for _, room := range []int{1, 2, 3, 100, 1023, 1024} {
		r := ring.New(room)
		from := 0
		for range 2*room + 1 {
			push(t, r, row(from+r.Len(), room-r.Len())...)
			if l := r.Take(room / 2); !slices.Equal(l, row(from, room/2)) {
				t.Fatalf("room %d: half of it is %v", room, l)
			}
			from += room / 2
			pop(t, r, from)
			from++
			check(t, "half of it, and one more, went", r, room, row(from, room-room/2-1)...)
		}
		if l := r.Take(room + 1); !slices.Equal(l, row(from, room-room/2-1)) || r.Len() != 0 {
			t.Errorf("room %d: all of it is %v", room, l)
		}
	}
}

// P7.1
func TestGoneRoundOften(t *testing.T) {
	for _, room := range []int{1, 2, 3, 5, 64, 1024} {
		for _, many := range []int{1, room/2 + 1, room} {
			r := ring.New(room)
			push(t, r, row(0, many-1)...)
			for i := range 5*room + 1 {
				push(t, r, i+many-1)
				if r.Len() != many {
					t.Fatalf("room %d: Len %d, not %d", room, r.Len(), many)
				}
				pop(t, r, i)
			}
			check(t, "behind going round", r, room, row(5*room+1, many-1)...)
		}
	}
}

// P7.1: which numbers they are is nothing to a ring.
func TestAnyNumbers(t *testing.T) {
	l := []int{math.MinInt, -1, 0, 0, 1, 1, math.MaxInt, -1, 1 << 40}
	r := ring.New(len(l))
	for range 4 {
		push(t, r, l...)
		check(t, "any numbers", r, len(l), l...)
		if got := r.Take(4); !slices.Equal(got, l[:4]) {
			t.Errorf("Take: %v", got)
		}
		pop(t, r, l[4:]...)
	}
}

// spoil writes all over a list, and over what room it has behind its end.
func spoil(l []int) {
	l = l[:cap(l)]
	for i := range l {
		l[i] = -7
	}
}

// K3
func TestListsAreTheCallersOwn(t *testing.T) {
	for room := 2; room < 8; room++ {
		for place := range room {
			r := standing(t, room, place, room)
			spoil(r.List())
			check(t, "a list was written to", r, room, row(100, room)...)
			spoil(r.Take(room / 2))
			spoil(r.Take(0))
			left := row(100+room/2, room-room/2)
			check(t, "what was taken was written to", r, room, left...)
			one, other := r.List(), r.List()
			spoil(one)
			if !slices.Equal(other, left) {
				t.Errorf("room %d, place %d: two lists share memory: %v", room, place, other)
			}
		}
	}
}

// K3
func TestListsStayWhileTheRingGoesOn(t *testing.T) {
	for room := 2; room < 8; room++ {
		for place := range room {
			r := standing(t, room, place, room)
			all := r.List()
			taken := r.Take(room / 2)
			left := r.List()
			for i := range 3 * room {
				r.Push(i)
				r.Pop()
				r.Push(-i)
			}
			want := row(100, room)
			if !slices.Equal(all, want) || !slices.Equal(taken, want[:room/2]) || !slices.Equal(left, want[room/2:]) {
				t.Errorf("room %d, place %d: lists became %v, %v, %v", room, place, all, taken, left)
			}
		}
	}
}

// K4
func TestRingsShareNothing(t *testing.T) {
	a, b := ring.New(3), ring.New(2)
	push(t, a, 1, 2)
	push(t, b, 3)
	pop(t, a, 1)
	push(t, a, 4, 5)
	check(t, "one", a, 3, 2, 4, 5)
	check(t, "another", b, 2, 3)
	push(t, b, 6)
	pop(t, b, 3, 6)
	check(t, "one", a, 3, 2, 4, 5)
	check(t, "another", b, 2)
}

// P1: a Ring that New didn't make.
func TestAZeroRing(t *testing.T) {
	var r ring.Ring
	check(t, "a zero one", &r, 0)
	if r.Push(1) {
		t.Error("Push without room")
	}
	popNone(t, &r)
	for _, n := range []int{-1, 0, 1, math.MaxInt} {
		if l := r.Take(n); len(l) != 0 {
			t.Errorf("Take(%d) of none: %v", n, l)
		}
	}
	check(t, "behind calls", &r, 0)
}

// P7.1: the chapter's example.
func TestExample(t *testing.T) {
	r := ring.New(2)
	push(t, r, 5, 6)
	if r.Push(7) {
		t.Error("Push 7: true")
	}
	pop(t, r, 5)
	check(t, "the example", r, 2, 6)
}
