package local_test

import (
	"math"
	"slices"
	"testing"

	"shunter/local"
)

// row is so many numbers one behind the other.
func row(from, many int) []int {
	var l []int
	for v := range many {
		l = append(l, from+v)
	}
	return l
}

// check holds a queue against who goes next, and the ring.
func check(t *testing.T, name string, l *local.Local, next int, ring ...int) {
	t.Helper()
	many := len(ring)
	if next != local.None {
		many++
	}
	if l.Next() != next || !slices.Equal(l.List(), ring) || l.Len() != many {
		t.Errorf("%s: next %d, ring %v, Len %d, not %d, %v, %d", name, l.Next(), l.List(), l.Len(), next, ring, many)
	}
}

func checkGlobal(t *testing.T, name string, g *local.Global, want ...int) {
	t.Helper()
	if g.Len() != len(want) || !slices.Equal(g.List(), want) {
		t.Errorf("%s: global row %v, Len %d, not %v", name, g.List(), g.Len(), want)
	}
}

// checkCount holds how many went to the global row.
func checkCount(t *testing.T, name string, got, want int) {
	t.Helper()
	if got != want {
		t.Errorf("%s: %d went to the global row, not %d", name, got, want)
	}
}

// checkSomebody holds who was handed out; None: nobody.
func checkSomebody(t *testing.T, name string, v int, ok bool, want int) {
	t.Helper()
	if v != want || ok != (want != local.None) {
		t.Errorf("%s: %d, %t, not %d", name, v, ok, want)
	}
}

func get(t *testing.T, name string, l *local.Local, want ...int) {
	t.Helper()
	for _, w := range want {
		v, ok := l.Get()
		checkSomebody(t, name, v, ok, w)
	}
}

// queue is one with room for so many in its ring, who goes next, and the ring's. Its ring's eldest doesn't stand at the first place.
func queue(t *testing.T, room, next int, ring ...int) *local.Local {
	t.Helper()
	var g local.Global
	l := local.New(room)
	for range room/2 + 1 {
		l.Put(9999, &g)
		l.Get()
	}
	for _, v := range ring {
		l.Put(v, &g)
	}
	if next != local.None {
		l.Ready(next, &g)
	}
	check(t, "made for a test", l, next, ring...)
	checkGlobal(t, "made for a test", &g)
	return l
}

// global is a row with those numbers, behind others that went.
func global(v ...int) *local.Global {
	var g local.Global
	g.Put(9999)
	g.Put(v...)
	g.Take(1)
	return &g
}

// P8.1
func TestNone(t *testing.T) {
	if local.None != -1 {
		t.Errorf("None: %d", local.None)
	}
}

// P8.1
func TestAZeroGlobal(t *testing.T) {
	var g local.Global
	checkGlobal(t, "a zero one", &g)
	for _, n := range []int{math.MinInt, -1, 0, 1, math.MaxInt} {
		if l := g.Take(n); len(l) != 0 {
			t.Errorf("Take(%d) of none: %v", n, l)
		}
	}
	g.Put()
	checkGlobal(t, "Put of none", &g)
	l := local.New(3)
	v, ok := l.Fetch(&g, 1)
	checkSomebody(t, "Fetch of none", v, ok, local.None)
	g.Put(4)
	checkGlobal(t, "Put", &g, 4)
}

// P8.1
func TestGlobalPut(t *testing.T) {
	var g local.Global
	g.Put(5)
	checkGlobal(t, "Put of one", &g, 5)
	g.Put()
	g.Put(nil...)
	g.Put([]int{}...)
	checkGlobal(t, "Put of none", &g, 5)
	g.Put(7, 6)
	checkGlobal(t, "Put of two", &g, 5, 7, 6)
	g.Put(0, 1<<40, math.MaxInt, 3)
	checkGlobal(t, "Put of any", &g, 5, 7, 6, 0, 1<<40, math.MaxInt, 3)
	many := row(100, 100000)
	g.Put(many...)
	checkGlobal(t, "Put of many", &g, append([]int{5, 7, 6, 0, 1 << 40, math.MaxInt, 3}, many...)...)
}

// P8.1
func TestGlobalTake(t *testing.T) {
	for many := range 6 {
		for _, n := range []int{math.MinInt, -1, 0, 1, 2, 3, 4, 5, 6, 7, math.MaxInt} {
			g := global(row(10, many)...)
			taken := min(max(n, 0), many)
			if l := g.Take(n); !slices.Equal(l, row(10, taken)) {
				t.Errorf("Take(%d) of %d: %v", n, many, l)
			}
			left := row(10+taken, many-taken)
			checkGlobal(t, "Take", g, left...)
			g.Put(50, 51)
			checkGlobal(t, "Put behind Take", g, append(left, 50, 51)...)
		}
	}
}

// P8.1: a row that goes on for long, one by one.
func TestGlobalGoesOnForLong(t *testing.T) {
	var g local.Global
	g.Put(row(0, 1000)...)
	for i := range 300000 {
		g.Put(1000 + i)
		if l := g.Take(1); len(l) != 1 || l[0] != i {
			t.Fatalf("Take %d: %v", i, l)
		}
	}
	checkGlobal(t, "for long", &g, row(300000, 1000)...)
}

// spoil writes all over a list, and over what room it has behind its end.
func spoil(l []int) {
	l = l[:cap(l)]
	for i := range l {
		l[i] = 7777
	}
}

// K3
func TestListsAreTheCallersOwn(t *testing.T) {
	var g local.Global
	given := make([]int, 4, 100)
	copy(given, row(0, 4))
	g.Put(given...)
	if !slices.Equal(given, row(0, 4)) {
		t.Errorf("Put changed what it was handed: %v", given)
	}
	spoil(given)
	spoil(g.List())
	checkGlobal(t, "lists were written to", &g, 0, 1, 2, 3)
	spoil(g.Take(0))
	spoil(g.Take(2))
	checkGlobal(t, "what was taken was written to", &g, 2, 3)
	all := g.List()
	taken := g.Take(1)
	g.Put(row(10, 20)...)
	g.Take(15)
	g.Put(row(30, 20)...)
	if !slices.Equal(all, []int{2, 3}) || !slices.Equal(taken, []int{2}) {
		t.Errorf("lists became %v, %v", all, taken)
	}
	l := queue(t, 4, 1, 2, 3, 4)
	spoil(l.List())
	check(t, "a list was written to", l, 1, 2, 3, 4)
	ring := l.List()
	get(t, "Get", l, 1, 2, 3)
	for i := range 4 {
		l.Put(20+i, &g)
	}
	if !slices.Equal(ring, []int{2, 3, 4}) {
		t.Errorf("a list became %v", ring)
	}
}

// P8.1
func TestNew(t *testing.T) {
	for _, c := range []struct{ room, counts int }{
		{math.MinInt, 1}, {-3, 1}, {0, 1}, {1, 1}, {2, 2}, {5, 5}, {1023, 1023}, {1024, 1024}, {1025, 1024}, {math.MaxInt, 1024},
	} {
		var g local.Global
		l := local.New(c.room)
		check(t, "New", l, local.None)
		get(t, "Get of nobody", l, local.None, local.None)
		for v := range c.counts {
			checkCount(t, "Put", l.Put(v, &g), 0)
		}
		check(t, "full", l, local.None, row(0, c.counts)...)
		checkCount(t, "Put into a full one", l.Put(5000, &g), c.counts/2+1)
		check(t, "Put into a full one", l, local.None, row(c.counts/2, c.counts-c.counts/2)...)
		checkGlobal(t, "Put into a full one", &g, append(row(0, c.counts/2), 5000)...)
	}
}

// P8.1: into a ring with room, and into a full one of an odd and of an even room, with and without one who goes next.
func TestPut(t *testing.T) {
	for _, next := range []int{local.None, 0, 70} {
		for room := 1; room < 10; room++ {
			for many := range room {
				l, g := queue(t, room, next, row(10, many)...), global(1, 2)
				checkCount(t, "Put with room", l.Put(90, g), 0)
				check(t, "Put with room", l, next, append(row(10, many), 90)...)
				checkGlobal(t, "Put with room", g, 1, 2)
			}
			l, g := queue(t, room, next, row(10, room)...), global(1, 2)
			half := room / 2
			checkCount(t, "Put without room", l.Put(90, g), half+1)
			check(t, "Put without room", l, next, row(10+half, room-half)...)
			want := append(append([]int{1, 2}, row(10, half)...), 90)
			checkGlobal(t, "Put without room", g, want...)
			if room > 1 {
				checkCount(t, "Put where there is room again", l.Put(91, g), 0)
				checkGlobal(t, "Put where there is room again", g, want...)
			}
		}
	}
}

// P8.1: all that is put into a room of 1, but for the first one, goes to the global row.
func TestPutIntoARoomOf1(t *testing.T) {
	var g local.Global
	l := local.New(1)
	checkCount(t, "the first", l.Put(0, &g), 0)
	for v := 1; v < 5; v++ {
		checkCount(t, "Put", l.Put(v, &g), 1)
		check(t, "Put", l, local.None, 0)
		checkGlobal(t, "Put", &g, row(1, v)...)
	}
	get(t, "Get", l, 0, local.None)
	checkCount(t, "Put behind Get", l.Put(8, &g), 0)
	check(t, "Put behind Get", l, local.None, 8)
}

// P8.1: ahead of nobody and ahead of somebody, with a full ring, too.
func TestReady(t *testing.T) {
	for room := 1; room < 8; room++ {
		for many := range room + 1 {
			ring := row(10, many)
			l, g := queue(t, room, local.None, ring...), global(1)
			checkCount(t, "Ready ahead of nobody", l.Ready(70, g), 0)
			check(t, "Ready ahead of nobody", l, 70, ring...)
			checkGlobal(t, "Ready ahead of nobody", g, 1)
			if many < room {
				checkCount(t, "Ready ahead of somebody", l.Ready(71, g), 0)
				check(t, "Ready ahead of somebody", l, 71, append(ring, 70)...)
				checkGlobal(t, "Ready ahead of somebody", g, 1)
				continue
			}
			half := room / 2
			checkCount(t, "Ready with a full ring", l.Ready(71, g), half+1)
			check(t, "Ready with a full ring", l, 71, ring[half:]...)
			checkGlobal(t, "Ready with a full ring", g, append(append([]int{1}, ring[:half]...), 70)...)
		}
	}
}

// P8.1: 0 is somebody, as any number from 0 on.
func TestReadyOfAnyNumber(t *testing.T) {
	for _, v := range []int{0, 1, math.MaxInt - 1, math.MaxInt} {
		var g local.Global
		l := local.New(2)
		checkCount(t, "Ready", l.Ready(v, &g), 0)
		check(t, "Ready", l, v)
		checkCount(t, "Ready", l.Ready(v, &g), 0)
		check(t, "Ready", l, v, v)
		checkCount(t, "Turn", l.Turn(&g), 0)
		check(t, "Turn", l, local.None, v, v)
		get(t, "Get", l, v, v, local.None)
	}
}

// P8.1: with nobody and with somebody who goes next.
func TestTurn(t *testing.T) {
	for room := 1; room < 8; room++ {
		for many := range room + 1 {
			ring := row(10, many)
			l, g := queue(t, room, local.None, ring...), global(1)
			checkCount(t, "Turn with nobody", l.Turn(g), 0)
			check(t, "Turn with nobody", l, local.None, ring...)
			checkGlobal(t, "Turn with nobody", g, 1)
			l = queue(t, room, 70, ring...)
			if many < room {
				checkCount(t, "Turn", l.Turn(g), 0)
				check(t, "Turn", l, local.None, append(ring, 70)...)
				checkGlobal(t, "Turn", g, 1)
			} else {
				half := room / 2
				checkCount(t, "Turn with a full ring", l.Turn(g), half+1)
				check(t, "Turn with a full ring", l, local.None, ring[half:]...)
				checkGlobal(t, "Turn with a full ring", g, append(append([]int{1}, ring[:half]...), 70)...)
			}
			checkCount(t, "one more Turn", l.Turn(g), 0)
			if l.Next() != local.None {
				t.Errorf("one more Turn: next %d", l.Next())
			}
		}
	}
}

// P8.1: who goes next, the ring's eldest, nobody.
func TestGet(t *testing.T) {
	l := queue(t, 3, 70, 10, 11, 12)
	get(t, "who goes next", l, 70)
	check(t, "behind who goes next", l, local.None, 10, 11, 12)
	get(t, "the eldest", l, 10)
	check(t, "behind the eldest", l, local.None, 11, 12)
	var g local.Global
	l.Ready(0, &g)
	get(t, "who goes next, and the others", l, 0, 11, 12)
	check(t, "behind all", l, local.None)
	get(t, "nobody", l, local.None, local.None)
	check(t, "behind nobody", l, local.None)
	l.Put(0, &g)
	get(t, "0 of the ring", l, 0, local.None)
}

// checkFetch: a queue of a room, who goes next, and so many in its ring fetches from a row of some by processors, and takes so many.
func checkFetch(t *testing.T, room, next, many, some, processors, taken int) {
	t.Helper()
	l, g := queue(t, room, next, row(10, many)...), global(row(100, some)...)
	v, ok := l.Fetch(g, processors)
	if taken == 0 {
		checkSomebody(t, "Fetch", v, ok, local.None)
		check(t, "Fetch", l, next, row(10, many)...)
	} else {
		checkSomebody(t, "Fetch", v, ok, 100)
		check(t, "Fetch", l, next, append(row(10, many), row(101, taken-1)...)...)
	}
	checkGlobal(t, "Fetch", g, row(100+taken, some-taken)...)
	if t.Failed() {
		t.Fatalf("room %d, next %d, %d in the ring, %d in the row, %d processors", room, next, many, some, processors)
	}
}

// P8.1
func TestFetch(t *testing.T) {
	for _, c := range []struct{ room, many, some, processors, taken int }{
		// an empty row
		{4, 0, 0, 1, 0}, {4, 4, 0, 0, 0}, {4, 2, 0, 5, 0}, {1, 1, 0, -1, 0},
		// no processors
		{8, 0, 5, 0, 1}, {8, 0, 5, -1, 1}, {8, 0, 5, math.MinInt, 1}, {8, 8, 5, 0, 1}, {8, 0, 1, 0, 1},
		// one processor: all
		{8, 0, 1, 1, 1}, {8, 0, 5, 1, 5}, {8, 0, 9, 1, 9}, {8, 0, 10, 1, 9}, {8, 0, 100, 1, 9},
		// some processors
		{8, 0, 5, 2, 3}, {8, 0, 6, 2, 4}, {8, 0, 7, 2, 4}, {8, 0, 5, 3, 2}, {8, 0, 6, 3, 3}, {8, 0, 5, 5, 2}, {8, 0, 5, 6, 1},
		{8, 0, 5, math.MaxInt, 1}, {8, 0, 16, 2, 9}, {8, 0, 100, 2, 9}, {8, 0, 100, 12, 9}, {8, 0, 100, 13, 8},
		// a ring that is half full, and one that is full
		{8, 4, 3, 1, 3}, {8, 4, 5, 1, 5}, {8, 4, 6, 1, 5}, {8, 4, 6, 2, 4}, {8, 4, 100, 2, 5}, {8, 7, 100, 2, 2}, {8, 7, 1, 2, 1},
		{8, 8, 100, 1, 1}, {8, 8, 2, 1, 1}, {8, 8, 1, 1, 1}, {1, 0, 5, 1, 2}, {1, 1, 5, 1, 1},
		// great ones
		{1024, 0, 100000, 64, 1025}, {1024, 0, 60000, 64, 938}, {1024, 1000, 60000, 64, 25}, {5000, 0, 5000, 1, 1025},
	} {
		for _, next := range []int{local.None, 0, 5} {
			checkFetch(t, c.room, next, c.many, c.some, c.processors, c.taken)
		}
	}
}

// P8.1
func TestFetchOfAll(t *testing.T) {
	for room := 1; room < 7; room++ {
		for many := range room + 1 {
			for some := range 12 {
				for processors := -1; processors < 14; processors++ {
					taken := 1
					for i := processors; processors > 0 && i <= some; i += processors {
						taken++
					}
					checkFetch(t, room, 5, many, some, processors, min(taken, some, room-many+1))
				}
			}
		}
	}
}

// checkSteal: a queue of a room, with so many in its ring, steals from one that has some in its ring, and takes so many.
func checkSteal(t *testing.T, room, many, some, taken int) {
	t.Helper()
	for _, next := range []int{local.None, 0, 5} {
		for _, other := range []int{local.None, 0, 6} {
			l, from := queue(t, room, next, row(10, many)...), queue(t, max(some, 1), other, row(2000, some)...)
			v, ok := l.Steal(from)
			checkSomebody(t, "Steal", v, ok, 2000)
			check(t, "who stole", l, next, append(row(10, many), row(2001, taken-1)...)...)
			check(t, "from whom", from, other, row(2000+taken, some-taken)...)
		}
	}
	if t.Failed() {
		t.Fatalf("room %d, %d in the ring, from one with %d", room, many, some)
	}
}

// P8.1
func TestSteal(t *testing.T) {
	for _, c := range []struct{ room, many, some, taken int }{
		// odd and even numbers
		{8, 0, 1, 1}, {8, 0, 2, 1}, {8, 0, 3, 2}, {8, 0, 4, 2}, {8, 0, 5, 3}, {8, 3, 6, 3}, {8, 3, 7, 4},
		// as many as there is room for, and more
		{8, 0, 17, 9}, {8, 0, 18, 9}, {8, 0, 19, 9}, {8, 0, 1024, 9}, {8, 7, 3, 2}, {8, 7, 4, 2}, {8, 7, 5, 2}, {8, 8, 1, 1}, {8, 8, 9, 1},
		{1, 0, 9, 2}, {1, 1, 9, 1}, {1024, 0, 1024, 512}, {1024, 513, 1024, 512}, {1024, 600, 1023, 425}, {1024, 1024, 1023, 1},
	} {
		checkSteal(t, c.room, c.many, c.some, c.taken)
	}
	for room := 1; room < 6; room++ {
		for many := range room + 1 {
			for some := 1; some < 14; some++ {
				checkSteal(t, room, many, some, min(some-some/2, room-many+1))
			}
		}
	}
}

// P8.1: who goes next goes on only where the ring has nobody.
func TestStealOfWhoGoesNext(t *testing.T) {
	for _, next := range []int{local.None, 0, 5} {
		for many := range 4 {
			for _, alone := range []int{0, 60, math.MaxInt} {
				l, from := queue(t, 3, next, row(10, many)...), queue(t, 4, alone)
				v, ok := l.Steal(from)
				checkSomebody(t, "Steal of one alone", v, ok, alone)
				check(t, "who stole", l, next, row(10, many)...)
				check(t, "from whom", from, local.None)
				v, ok = l.Steal(from)
				checkSomebody(t, "one more Steal", v, ok, local.None)
			}
		}
	}
	l, from := queue(t, 3, local.None), queue(t, 4, 60, 61)
	v, ok := l.Steal(from)
	checkSomebody(t, "Steal of the ring's", v, ok, 61)
	v, ok = l.Steal(from)
	checkSomebody(t, "Steal of who goes next", v, ok, 60)
	check(t, "who stole", l, local.None)
	check(t, "from whom", from, local.None)
}

// P8.1
func TestStealFromNobodyAndFromItself(t *testing.T) {
	for _, next := range []int{local.None, 0, 5} {
		for many := range 4 {
			l, from := queue(t, 3, next, row(10, many)...), local.New(3)
			v, ok := l.Steal(from)
			checkSomebody(t, "Steal from nobody", v, ok, local.None)
			check(t, "Steal from nobody", l, next, row(10, many)...)
			check(t, "Steal from nobody", from, local.None)
			v, ok = l.Steal(l)
			checkSomebody(t, "Steal from itself", v, ok, local.None)
			check(t, "Steal from itself", l, next, row(10, many)...)
		}
	}
}

// P1: a Local that New didn't make has nobody, and a ring without room.
func TestAZeroLocal(t *testing.T) {
	var l local.Local
	var g local.Global
	check(t, "a zero one", &l, local.None)
	get(t, "Get of nobody", &l, local.None)
	checkCount(t, "Turn with nobody", l.Turn(&g), 0)
	checkCount(t, "Put without room", l.Put(3, &g), 1)
	checkGlobal(t, "Put without room", &g, 3)
	checkCount(t, "Ready ahead of nobody", l.Ready(0, &g), 0)
	check(t, "Ready ahead of nobody", &l, 0)
	checkCount(t, "Ready ahead of somebody", l.Ready(4, &g), 1)
	checkGlobal(t, "Ready ahead of somebody", &g, 3, 0)
	v, ok := l.Fetch(&g, 1)
	checkSomebody(t, "Fetch", v, ok, 3)
	v, ok = l.Steal(queue(t, 4, 9, 20, 21, 22, 23))
	checkSomebody(t, "Steal", v, ok, 20)
	check(t, "behind calls", &l, 4)
	checkGlobal(t, "behind calls", &g, 0)
}

// K4
func TestQueuesShareNothing(t *testing.T) {
	var g, h local.Global
	a, b := local.New(2), local.New(2)
	a.Ready(1, &g)
	a.Put(2, &g)
	b.Put(3, &h)
	a.Put(4, &g)
	a.Put(5, &g)
	h.Put(6)
	check(t, "one", a, 1, 4)
	check(t, "another", b, local.None, 3)
	checkGlobal(t, "one", &g, 2, 5)
	checkGlobal(t, "another", &h, 6)
}

// P8.1: the chapter's example.
func TestExample(t *testing.T) {
	var g local.Global
	l := local.New(4)
	checkCount(t, "Ready 5", l.Ready(5, &g), 0)
	checkCount(t, "Ready 6", l.Ready(6, &g), 0)
	check(t, "the example", l, 6, 5)
	get(t, "the example", l, 6, 5, local.None)
}
