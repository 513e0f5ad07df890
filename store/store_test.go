package store_test

import (
	"math"
	"testing"

	"shunter/api"
	"shunter/store"
)

// check holds a store against its bytes, how many of them are safe, and whether it is dead.
func check(t *testing.T, name string, s *store.Store, bytes string, safe int, dead bool) {
	t.Helper()
	if s.Bytes() != bytes || s.Len() != len(bytes) || s.Safe() != safe || s.Dead() != dead {
		t.Errorf("%s: %q, Len %d, Safe %d, Dead %t, not %q, Safe %d, Dead %t",
			name, s.Bytes(), s.Len(), s.Safe(), s.Dead(), bytes, safe, dead)
	}
}

func checkError(t *testing.T, name string, got, want api.Errno) {
	t.Helper()
	if got != want {
		t.Errorf("%s: error %d, not %d", name, got, want)
	}
}

// having is a store of much room, with bytes that are safe, and others behind them that aren't.
func having(safe, loose string) *store.Store {
	s := store.New(100)
	s.Append(safe)
	s.Sync()
	s.Append(loose)
	return s
}

// P4.1
func TestNew(t *testing.T) {
	for _, room := range []int{math.MinInt, -1, 0, 1, 10, math.MaxInt} {
		s := store.New(room)
		check(t, "New", s, "", 0, false)
		checkError(t, "Append of nothing", s.Append(""), api.OK)
		checkError(t, "Sync", s.Sync(), api.OK)
		checkError(t, "Cut", s.Cut(0), api.OK)
		check(t, "behind calls", s, "", 0, false)
	}
}

// P4.1
func TestRoom(t *testing.T) {
	for _, room := range []int{math.MinInt, -1, 0} {
		s := store.New(room)
		checkError(t, "a byte into no room", s.Append("a"), api.ErrFull)
		check(t, "no room", s, "", 0, false)
	}
	s := store.New(5)
	checkError(t, "one byte too many at once", s.Append("abcdef"), api.ErrFull)
	check(t, "one byte too many at once", s, "", 0, false)
	checkError(t, "some", s.Append("abc"), api.OK)
	checkError(t, "one byte too many", s.Append("def"), api.ErrFull)
	check(t, "one byte too many", s, "abc", 0, false)
	checkError(t, "just enough", s.Append("de"), api.OK)
	checkError(t, "a byte where it is full", s.Append("f"), api.ErrFull)
	checkError(t, "nothing where it is full", s.Append(""), api.OK)
	check(t, "full", s, "abcde", 0, false)
	checkError(t, "Sync", s.Sync(), api.OK)
	checkError(t, "a byte where all are safe", s.Append("f"), api.ErrFull)
	checkError(t, "Cut", s.Cut(3), api.OK)
	checkError(t, "one byte too many behind a Cut", s.Append("fgh"), api.ErrFull)
	checkError(t, "just enough behind a Cut", s.Append("fg"), api.OK)
	check(t, "full again", s, "abcfg", 3, false)
	s.Crash(1, "")
	checkError(t, "just enough behind a Crash", s.Append("h"), api.OK)
	checkError(t, "one byte too many behind a Crash", s.Append("i"), api.ErrFull)
	check(t, "full behind a Crash", s, "abcfh", 4, false)
	s = store.New(math.MaxInt)
	checkError(t, "the greatest room", s.Append("a"), api.OK)
	checkError(t, "the greatest room", s.Append("bc"), api.OK)
	check(t, "the greatest room", s, "abc", 0, false)
}

// P4.1
func TestAppendAndSync(t *testing.T) {
	s := store.New(10)
	s.Append("ab")
	check(t, "Append", s, "ab", 0, false)
	s.Append("c\x00\xff")
	check(t, "Append", s, "abc\x00\xff", 0, false)
	s.Sync()
	check(t, "Sync", s, "abc\x00\xff", 5, false)
	s.Append("d")
	check(t, "Append", s, "abc\x00\xffd", 5, false)
	s.Append("ef")
	s.Sync()
	s.Sync()
	check(t, "Sync", s, "abc\x00\xffdef", 8, false)
}

// P4.1
func TestCut(t *testing.T) {
	for _, c := range []struct {
		n     int
		want  api.Errno
		bytes string
		safe  int
	}{
		{math.MinInt, api.ErrArg, "abcdef", 4},
		{-1, api.ErrArg, "abcdef", 4},
		{0, api.OK, "", 0},
		{1, api.OK, "a", 1},
		{3, api.OK, "abc", 3},
		{4, api.OK, "abcd", 4},
		{5, api.OK, "abcde", 4},
		{6, api.OK, "abcdef", 4},
		{7, api.ErrArg, "abcdef", 4},
		{100, api.ErrArg, "abcdef", 4},
		{math.MaxInt, api.ErrArg, "abcdef", 4},
	} {
		s := having("abcd", "ef")
		checkError(t, "Cut", s.Cut(c.n), c.want)
		check(t, "Cut", s, c.bytes, c.safe, false)
		s.Append("xy")
		check(t, "Append behind a Cut", s, c.bytes+"xy", c.safe, false)
		s.Crash(1, "")
		check(t, "Crash behind a Cut", s, (c.bytes + "xy")[:c.safe+1], c.safe+1, false)
	}
	s := store.New(3)
	checkError(t, "Cut of nothing at 1", s.Cut(1), api.ErrArg)
	checkError(t, "Cut of nothing at 0", s.Cut(0), api.OK)
}

// P4.1
func TestArm(t *testing.T) {
	for n := range 5 {
		s := store.New(100)
		s.Append("a")
		s.Arm(n)
		for i := range n {
			check(t, "ahead of the power's cut", s, "abbbb"[:1+i], 0, false)
			checkError(t, "Append ahead of the power's cut", s.Append("b"), api.OK)
		}
		check(t, "where no call was ErrCut yet", s, "abbbb"[:1+n], 0, false)
		for range 3 {
			checkError(t, "Append", s.Append("c"), api.ErrCut)
			checkError(t, "Sync", s.Sync(), api.ErrCut)
			checkError(t, "Cut", s.Cut(0), api.ErrCut)
			check(t, "without power", s, "abbbb"[:1+n], 0, true)
		}
	}
}

// P4.1
func TestEachCallIsCutAndCounts(t *testing.T) {
	calls := map[string]func(s *store.Store) api.Errno{
		"Append":            func(s *store.Store) api.Errno { return s.Append("x") },
		"Append of nothing": func(s *store.Store) api.Errno { return s.Append("") },
		"Sync":              func(s *store.Store) api.Errno { return s.Sync() },
		"Cut":               func(s *store.Store) api.Errno { return s.Cut(1) },
		"Cut of all":        func(s *store.Store) api.Errno { return s.Cut(s.Len()) },
	}
	for name, call := range calls {
		s := having("abc", "d")
		s.Arm(0)
		check(t, name+" ahead", s, "abcd", 3, false)
		checkError(t, name, call(s), api.ErrCut)
		check(t, name, s, "abcd", 3, true)
		s = having("abc", "d")
		s.Arm(1)
		checkError(t, name+", let through", call(s), api.OK)
		if s.Dead() {
			t.Errorf("%s, let through: dead", name)
		}
		bytes, safe := s.Bytes(), s.Safe()
		checkError(t, "Sync behind "+name, s.Sync(), api.ErrCut)
		check(t, "behind "+name, s, bytes, safe, true)
	}
}

// P4.1
func TestArmBelow0(t *testing.T) {
	for _, n := range []int{-1, -2, math.MinInt} {
		s := store.New(100)
		s.Arm(n)
		for range 5 {
			checkError(t, "Sync", s.Sync(), api.OK)
		}
		s.Arm(2)
		s.Arm(n)
		for range 5 {
			checkError(t, "Sync behind two Arms", s.Sync(), api.OK)
		}
		s.Arm(0)
		s.Arm(n)
		checkError(t, "Sync behind an Arm of 0", s.Sync(), api.OK)
		check(t, "below 0", s, "", 0, false)
	}
}

// P4.1
func TestArmBehindAnArm(t *testing.T) {
	for _, first := range []int{-1, 0, 1, 5, math.MaxInt} {
		for _, then := range []int{0, 1, 3} {
			s := store.New(100)
			s.Arm(first)
			s.Arm(then)
			for range then {
				checkError(t, "let through", s.Sync(), api.OK)
			}
			check(t, "where no call was ErrCut yet", s, "", 0, false)
			checkError(t, "behind those", s.Sync(), api.ErrCut)
		}
	}
	s := store.New(100)
	s.Arm(3)
	s.Sync()
	s.Sync()
	s.Arm(2)
	checkError(t, "the first behind the second Arm", s.Sync(), api.OK)
	checkError(t, "the second behind the second Arm", s.Sync(), api.OK)
	checkError(t, "the third behind the second Arm", s.Sync(), api.ErrCut)
}

// P4.1
func TestArmWhereThereIsNoPower(t *testing.T) {
	for _, n := range []int{math.MinInt, -1, 0, 1, 5} {
		s := having("abc", "de")
		s.Arm(0)
		checkError(t, "Sync", s.Sync(), api.ErrCut)
		s.Arm(n)
		check(t, "Arm", s, "abcde", 3, true)
		checkError(t, "Append behind Arm", s.Append("x"), api.ErrCut)
		checkError(t, "Sync behind Arm", s.Sync(), api.ErrCut)
		checkError(t, "Cut behind Arm", s.Cut(1), api.ErrCut)
		check(t, "behind Arm", s, "abcde", 3, true)
		s.Crash(1, "")
		check(t, "Crash", s, "abcd", 4, false)
		for range 7 {
			checkError(t, "Sync behind a Crash", s.Sync(), api.OK)
		}
	}
}

// P4.1
func TestAFullCallCounts(t *testing.T) {
	s := store.New(3)
	s.Append("abc")
	s.Arm(2)
	checkError(t, "the first", s.Append("d"), api.ErrFull)
	checkError(t, "the second", s.Append("d"), api.ErrFull)
	check(t, "let through", s, "abc", 0, false)
	checkError(t, "the third", s.Append("d"), api.ErrCut)
	check(t, "cut", s, "abc", 0, true)
}

// P4.1
func TestAnOutsideCutDoesNotCount(t *testing.T) {
	s := having("abc", "")
	s.Arm(1)
	for _, n := range []int{-1, 4, math.MinInt, math.MaxInt} {
		checkError(t, "while the power is to be cut", s.Cut(n), api.ErrArg)
	}
	checkError(t, "let through", s.Append("d"), api.OK)
	for _, n := range []int{-1, 5} {
		checkError(t, "where the next call is cut", s.Cut(n), api.ErrArg)
	}
	check(t, "where the next call is cut", s, "abcd", 3, false)
	checkError(t, "the next call", s.Cut(4), api.ErrCut)
	for _, n := range []int{-1, 5} {
		checkError(t, "without power", s.Cut(n), api.ErrArg)
	}
	check(t, "without power", s, "abcd", 3, true)
}

// P4.1
func TestCrash(t *testing.T) {
	for _, c := range []struct {
		keep  int
		with  string
		bytes string
	}{
		{math.MinInt, "", "ab"},
		{-1, "xyz", "ab"},
		{0, "", "ab"},
		{0, "x", "ab"},
		{1, "", "abc"},
		{1, "x", "abx"},
		{1, "xy", "abx"},
		{2, "x", "abxd"},
		{2, "xy", "abxy"},
		{2, "xyz", "abxy"},
		{3, "", "abcde"},
		{3, "x", "abxde"},
		{3, "xyz", "abxyz"},
		{3, "xyz\x00more", "abxyz"},
		{4, "", "abcde"},
		{4, "xyzw", "abxyz"},
		{math.MaxInt, "", "abcde"},
		{math.MaxInt, "x", "abxde"},
		{math.MaxInt, "xyzw", "abxyz"},
	} {
		s := having("ab", "cde")
		s.Crash(c.keep, c.with)
		check(t, "Crash", s, c.bytes, len(c.bytes), false)
		s.Crash(0, "q")
		check(t, "Crash again", s, c.bytes, len(c.bytes), false)
	}
}

// P4.1
func TestCrashWhileNothingIsUnsafe(t *testing.T) {
	for _, keep := range []int{math.MinInt, -1, 0, 1, 2, 3, math.MaxInt} {
		for _, with := range []string{"", "x", "xyzw"} {
			s := having("abc", "")
			s.Crash(keep, with)
			check(t, "Crash", s, "abc", 3, false)
			s = store.New(10)
			s.Crash(keep, with)
			check(t, "Crash of nothing", s, "", 0, false)
		}
	}
}

// P4.1
func TestCrashGivesPower(t *testing.T) {
	s := having("ab", "c")
	s.Arm(1)
	s.Crash(1, "")
	for range 3 {
		checkError(t, "where it was to be cut", s.Sync(), api.OK)
	}
	s.Arm(0)
	checkError(t, "Append", s.Append("d"), api.ErrCut)
	s.Crash(1, "")
	check(t, "where it was cut", s, "abc", 3, false)
	checkError(t, "Append behind a Crash", s.Append("d"), api.OK)
	s.Arm(1)
	checkError(t, "armed again", s.Append("e"), api.OK)
	checkError(t, "cut again", s.Append("f"), api.ErrCut)
	check(t, "cut again", s, "abcde", 3, true)
}

// K3
func TestBytesStayAsTheyWere(t *testing.T) {
	s := having("ab", "cde")
	was := s.Bytes()
	s.Crash(3, "xyz")
	s.Cut(0)
	s.Append("qqqqqqqq")
	if was != "abcde" {
		t.Errorf("the bytes became %q", was)
	}
}

// K4
func TestStoresShareNothing(t *testing.T) {
	a, b := having("ab", "c"), having("ab", "c")
	a.Arm(0)
	a.Sync()
	b.Append("x")
	check(t, "one", a, "abc", 2, true)
	check(t, "another", b, "abcx", 2, false)
}

// P4.1: the chapter's example.
func TestExample(t *testing.T) {
	s := store.New(100)
	s.Append("ab")
	s.Sync()
	s.Append("cde")
	s.Crash(2, "x")
	check(t, "Crash", s, "abxd", 4, false)
}
