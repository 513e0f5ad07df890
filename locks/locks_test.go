package locks_test

import (
	"math"
	"slices"
	"testing"

	"shunter/api"
	"shunter/locks"
)

// check holds a lock against who has it, and who waits.
func check(t *testing.T, name string, l *locks.Lock, owner int, waits ...int) {
	t.Helper()
	if l.Owner() != owner || !slices.Equal(l.Waits(), waits) {
		t.Errorf("%s: %d has it, %v wait, not %d, %v", name, l.Owner(), l.Waits(), owner, waits)
	}
}

func take(t *testing.T, l *locks.Lock, g int, want bool) {
	t.Helper()
	if ok := l.Take(g); ok != want {
		t.Errorf("Take(%d): %t", g, ok)
	}
}

// give lets the one that has it give it to another one, or to None.
func give(t *testing.T, l *locks.Lock, g, want int) {
	t.Helper()
	if next, err := l.Give(g); next != want || err != api.OK {
		t.Errorf("Give(%d): %d, %d, not %d", g, next, err, want)
	}
}

func giveFails(t *testing.T, l *locks.Lock, g ...int) {
	t.Helper()
	for _, v := range g {
		if next, err := l.Give(v); next != locks.None || err != api.ErrNone {
			t.Errorf("Give(%d): %d, %d, not None, ErrNone", v, next, err)
		}
	}
}

// lock is one that somebody has, and for which others wait; others had it ahead of them.
func lock(t *testing.T, owner int, waits ...int) *locks.Lock {
	t.Helper()
	l := locks.New()
	take(t, l, 900, true)
	take(t, l, 901, false)
	if owner != locks.None {
		take(t, l, owner, false)
	}
	for _, g := range waits {
		take(t, l, g, false)
	}
	give(t, l, 900, 901)
	give(t, l, 901, owner)
	check(t, "made for a test", l, owner, waits...)
	return l
}

// P14.1
func TestNone(t *testing.T) {
	if locks.None != -1 {
		t.Errorf("None: %d", locks.None)
	}
}

// P14.1
func TestNew(t *testing.T) {
	l := locks.New()
	check(t, "New", l, locks.None)
	giveFails(t, l, 0, 1, 99, math.MaxInt)
	check(t, "behind Give of what nobody has", l, locks.None)
	check(t, "Clone", l.Clone(), locks.None)
}

// P14.1
func TestTakeOfWhatNobodyHas(t *testing.T) {
	for _, g := range []int{0, 1, 2, 99, 100, 1 << 32, 1<<32 + 1, math.MaxInt - 1, math.MaxInt} {
		l := locks.New()
		take(t, l, g, true)
		check(t, "Take", l, g)
		give(t, l, g, locks.None)
		check(t, "Give", l, locks.None)
		giveFails(t, l, g, 0, 1)
		take(t, l, 3, true)
		check(t, "another one took it", l, 3)
	}
}

// P14.1
func TestTakeOfWhatSomebodyElseHas(t *testing.T) {
	l := locks.New()
	take(t, l, 5, true)
	take(t, l, 0, false)
	check(t, "one waits", l, 5, 0)
	take(t, l, 7, false)
	take(t, l, 6, false)
	check(t, "three wait", l, 5, 0, 7, 6)
	take(t, l, 7, false)
	check(t, "one waits twice", l, 5, 0, 7, 6, 7)
}

// P14.1: who has it may wait for it as well, and gets it from itself.
func TestTakeOfWhatOneHas(t *testing.T) {
	for _, g := range []int{0, 4, math.MaxInt} {
		l := locks.New()
		take(t, l, g, true)
		take(t, l, g, false)
		check(t, "its own", l, g, g)
		take(t, l, 9, false)
		take(t, l, g, false)
		check(t, "its own again", l, g, g, 9, g)
		give(t, l, g, g)
		check(t, "from itself", l, g, 9, g)
		give(t, l, g, 9)
		check(t, "to another one", l, 9, g)
		giveFails(t, l, g)
		give(t, l, 9, g)
		give(t, l, g, locks.None)
		check(t, "to nobody", l, locks.None)
	}
}

// P14.1: nothing has changed behind it.
func TestGiveByAnotherOne(t *testing.T) {
	l := lock(t, 5, 6, 0, 6)
	giveFails(t, l, 6, 0, 4, 900, 901, 1<<32+5, math.MaxInt)
	check(t, "by another one", l, 5, 6, 0, 6)
	l = lock(t, 5)
	giveFails(t, l, 0, 1, 6)
	check(t, "by another one, while nobody waits", l, 5)
	l = lock(t, 0, 1)
	giveFails(t, l, 1, 2)
	check(t, "by another one than 0", l, 0, 1)
}

// P14.1
func TestGiveOfWhatNobodyHas(t *testing.T) {
	l := lock(t, locks.None)
	giveFails(t, l, 0, 1, 900, 901)
	check(t, "nobody has it", l, locks.None)
	l = lock(t, 0)
	give(t, l, 0, locks.None)
	giveFails(t, l, 0)
	take(t, l, 0, true)
	check(t, "taken again", l, 0)
}

// P14.1, P14.2: who waits has it in the order in which they came, also one that waits twice.
func TestGive(t *testing.T) {
	for _, waits := range [][]int{
		nil, {2}, {0}, {1}, {3, 2}, {2, 3}, {2, 2}, {1, 1, 1}, {5, 2, 5, 3}, {3, 5, 5, 1, 4, 5, 3}, {9, 8, 7, 6, 5, 4, 3, 2, 1, 0}, {math.MaxInt, 0, 1 << 32, math.MaxInt},
	} {
		l := lock(t, 1, waits...)
		owner := 1
		for i, g := range waits {
			giveFails(t, l, 4000)
			give(t, l, owner, g)
			check(t, "Give", l, g, waits[i+1:]...)
			owner = g
		}
		give(t, l, owner, locks.None)
		check(t, "nobody waited", l, locks.None)
		giveFails(t, l, owner)
	}
}

// P14.2: who comes while others wait has it behind them, while it goes from one to the next.
func TestWhoComesLaterWaitsBehind(t *testing.T) {
	l := locks.New()
	take(t, l, 0, true)
	row := []int{0}
	for i := range 50 {
		for _, g := range []int{100 + i, i % 3} {
			take(t, l, g, false)
			row = append(row, g)
		}
		give(t, l, row[0], row[1])
		row = row[1:]
		check(t, "two came, one gave it", l, row[0], row[1:]...)
	}
}

// P14.1: many wait; each call ends in its time.
func TestManyWait(t *testing.T) {
	const many = 200000
	l := locks.New()
	take(t, l, 0, true)
	for g := 1; g < many; g++ {
		l.Take(g)
	}
	for g := range many - 1 {
		if next, err := l.Give(g); next != g+1 || err != api.OK {
			t.Fatalf("Give(%d): %d, %d", g, next, err)
		}
	}
	check(t, "the last one", l, many-1)
}

// spoil writes all over a list, and over what room it has behind its end.
func spoil(l []int) {
	l = l[:cap(l)]
	for i := range l {
		l[i] = 7777
	}
}

// goOn calls what there is to call, some times.
func goOn(l *locks.Lock) {
	for g := range 6 {
		l.Take(60 + g)
		l.Give(g)
		l.Give(l.Owner())
		l.Take(70 + g)
	}
	for range len(l.Waits()) + 1 {
		l.Give(l.Owner())
	}
	l.Take(3)
	l.Take(4)
}

// waiting are rows of each sort of those that wait.
func waiting() [][]int {
	return [][]int{nil, {3}, {2, 3}, {1, 1}, {3, 2, 5}, {4, 3, 2, 1}, {5, 1, 5, 2, 0}, {9, 8, 7, 6, 5, 4, 3, 2, 1}}
}

// K3
func TestWaitsIsTheCallersOwn(t *testing.T) {
	for _, want := range waiting() {
		l := lock(t, 1, want...)
		one, other := l.Waits(), l.Waits()
		spoil(one)
		check(t, "a list was written to", l, 1, want...)
		if !slices.Equal(other, want) {
			t.Errorf("two lists share memory: %v", other)
		}
		l.Take(50)
		spoil(other)
		check(t, "a list was written to, behind Take", l, 1, append(slices.Clone(want), 50)...)
	}
}

// K3
func TestWaitsStaysWhileTheLockGoesOn(t *testing.T) {
	for _, want := range waiting() {
		l := lock(t, 1, want...)
		list := l.Waits()
		goOn(l)
		if !slices.Equal(list, want) {
			t.Errorf("a list became %v, from %v", list, want)
		}
	}
}

// P14.1, K3: a clone goes its own way, and so does who was cloned.
func TestClone(t *testing.T) {
	for _, want := range waiting() {
		for _, owner := range []int{0, 1, 99} {
			l := lock(t, owner, want...)
			c := l.Clone()
			check(t, "Clone", c, owner, want...)
			goOn(c)
			check(t, "who was cloned, as the clone went on", l, owner, want...)
			c = l.Clone()
			goOn(l)
			check(t, "Clone, as who was cloned went on", c, owner, want...)
			goOn(c)
			check(t, "by the same calls", c, l.Owner(), l.Waits()...)
		}
	}
}

// P14.1, K3: what each of the two puts behind the row's end is its own.
func TestCloneAppendsToItsOwn(t *testing.T) {
	for _, want := range waiting() {
		l := lock(t, 1, want...)
		c := l.Clone()
		take(t, l, 70, false)
		take(t, c, 80, false)
		check(t, "who was cloned", l, 1, append(slices.Clone(want), 70)...)
		check(t, "the clone", c, 1, append(slices.Clone(want), 80)...)
	}
	l := locks.New()
	c := l.Clone()
	take(t, l, 5, true)
	take(t, c, 6, true)
	check(t, "who was cloned while nobody had it", l, 5)
	check(t, "the clone of what nobody had", c, 6)
}

// K4: locks have nothing to do with each other.
func TestLocksShareNothing(t *testing.T) {
	a, b := locks.New(), locks.New()
	take(t, a, 1, true)
	take(t, b, 1, true)
	take(t, b, 2, false)
	give(t, a, 1, locks.None)
	check(t, "one", a, locks.None)
	check(t, "another", b, 1, 2)
}

// P1: a Lock that New didn't make.
func TestAZeroLock(t *testing.T) {
	var l locks.Lock
	l.Owner()
	l.Waits()
	l.Clone().Take(1)
	l.Give(1)
	l.Take(1)
	l.Take(2)
	l.Give(1)
	l.Give(2)
	l.Give(2)
}

// P14.1: the chapter's example.
func TestExample(t *testing.T) {
	l := locks.New()
	take(t, l, 1, true)
	take(t, l, 2, false)
	give(t, l, 1, 2)
}
