package frame_test

import (
	"math"
	"slices"
	"testing"

	"shunter/code"
	"shunter/frame"
)

// check holds a stack against its frames.
func check(t *testing.T, name string, s frame.Stack, want ...frame.Frame) {
	t.Helper()
	if !slices.Equal(s, want) {
		t.Fatalf("%s: %+v, not %+v", name, s, want)
	}
	top := s.Top()
	if len(want) == 0 {
		if top != nil {
			t.Fatalf("%s: Top of none: %+v", name, *top)
		}
	} else if top != &s[len(s)-1] {
		t.Fatalf("%s: Top is another one's memory", name)
	}
}

// deep is a stack of so many frames, each other than all others, and another one of the same.
func deep(many int) (frame.Stack, []frame.Frame) {
	var s frame.Stack
	for i := range many {
		f := frame.Frame{Func: i, At: 2 * i, Into: i % 8}
		for r := range f.R {
			f.R[r] = int64(10*i + r)
		}
		s = append(s, f)
	}
	return s, slices.Clone(s)
}

// spoil changes each number of each frame.
func spoil(s frame.Stack) {
	for i := range s {
		s[i].Func += 1000
		s[i].At += 2000
		s[i].Into += 3000
		for r := range s[i].R {
			s[i].R[r] += 4000
		}
	}
}

// P12.1
func TestBegin(t *testing.T) {
	for _, fun := range []int{0, 1, 15, 16, -1, math.MaxInt} {
		for _, arg := range great {
			check(t, "Begin", frame.Begin(fun, arg), frame.Frame{Func: fun, R: [8]int64{arg}})
		}
	}
}

// K3: two that begin with the same share nothing.
func TestBeginTwice(t *testing.T) {
	a, b := frame.Begin(2, 3), frame.Begin(2, 3)
	spoil(a)
	check(t, "the other one", b, frame.Frame{Func: 2, R: [8]int64{3}})
}

// P12.1
func TestTop(t *testing.T) {
	check(t, "nil", nil)
	check(t, "none", frame.Stack{})
	check(t, "none, with room", make(frame.Stack, 0, 5))
	for many := range 18 {
		s, l := deep(many)
		check(t, "deep", s, l...)
		if many == 0 {
			continue
		}
		// It is in the stack itself.
		s.Top().R[3] = -9
		l[many-1].R[3] = -9
		s.Top().Pure(code.Ins{Op: code.Const, A: 4, B: 77})
		l[many-1].R[4] = 77
		l[many-1].At++
		check(t, "Top changed", s, l...)
	}
}

// P12.1: of none, of 15, of 16 frames.
func TestCall(t *testing.T) {
	for many := range 16 {
		for into := range 8 {
			for _, arg := range []int64{0, 5, -1, math.MinInt64} {
				s, l := deep(many)
				u, ok := s.Call(13, arg, into)
				if !ok {
					t.Fatalf("Call at %d frames: false", many)
				}
				check(t, "Call", u, append(slices.Clone(l), frame.Frame{Func: 13, R: [8]int64{arg}, Into: into})...)
				check(t, "what was called on", s, l...)
			}
		}
	}
}

// P12.1
func TestCallOfTooMany(t *testing.T) {
	for _, many := range []int{16, 17, 30} {
		s, l := deep(many)
		u, ok := s.Call(13, 5, 2)
		if ok {
			t.Errorf("Call at %d frames: true", many)
		}
		check(t, "Call", u, l...)
		check(t, "what was called on", s, l...)
	}
}

// P12.1: from none on, until there are too many.
func TestCallsUpToTheLimit(t *testing.T) {
	for _, s := range []frame.Stack{nil, {}, frame.Begin(0, 0)} {
		for len(s) < 16 {
			u, ok := s.Call(len(s), 1, 2)
			if !ok || len(u) != len(s)+1 {
				t.Fatalf("Call at %d frames: %t, %d", len(s), ok, len(u))
			}
			s = u
		}
		if u, ok := s.Call(1, 1, 1); ok || !slices.Equal(u, s) {
			t.Errorf("Call at 16 frames: %t, %+v", ok, u)
		}
	}
}

// K3: what is answered shares nothing with what it was made of, whether there was room or not; room behind a stack is not written to.
func TestCallGoesItsOwnWay(t *testing.T) {
	for many := range 18 {
		s, l := deep(many)
		u, _ := s.Call(9, 9, 1)
		was := slices.Clone(u)
		spoil(s)
		check(t, "made by Call", u, was...)
		s, _ = deep(many)
		u, _ = s.Call(9, 9, 1)
		spoil(u)
		check(t, "called on", s, l...)
	}
}

// K3
func TestCallOfAStackWithRoomBehind(t *testing.T) {
	for many := range 16 {
		all, l := deep(20)
		s := all[:many]
		u, _ := s.Call(9, 9, 1)
		w, _ := s.Call(8, 7, 2)
		check(t, "all", all, l...)
		check(t, "first", u, append(slices.Clone(l[:many]), frame.Frame{Func: 9, R: [8]int64{9}, Into: 1})...)
		check(t, "second", w, append(slices.Clone(l[:many]), frame.Frame{Func: 8, R: [8]int64{7}, Into: 2})...)
	}
}

// K3: several made of one by Call, and of these further ones.
func TestCallsOfOne(t *testing.T) {
	s := frame.Begin(0, 0)
	for range 7 {
		u, _ := s.Call(1, 10, 1)
		w, _ := s.Call(2, 20, 2)
		deeper, _ := u.Call(3, 30, 3)
		other, _ := u.Call(4, 40, 4)
		if u.Top().Func != 1 || w.Top().Func != 2 || deeper.Top().Func != 3 || other.Top().Func != 4 {
			t.Fatalf("%+v, %+v, %+v, %+v", *u.Top(), *w.Top(), *deeper.Top(), *other.Top())
		}
		u.Top().R[5] = 55
		if w.Top().R[5] != 0 || deeper[len(deeper)-2].R[5] != 0 || other[len(other)-2].R[5] != 0 {
			t.Fatal("what was done on one shows in the other")
		}
		s = other
	}
}

// P12.1
func TestReturnOfTooFew(t *testing.T) {
	for name, s := range map[string]frame.Stack{"nil": nil, "none": {}, "none, with room": make(frame.Stack, 0, 3), "one": frame.Begin(4, 4), "one, that isn't alone": first(deep(3))[:1]} {
		was := slices.Clone(s)
		if u, ok := s.Return(7); u != nil || ok {
			t.Errorf("%s: %+v, %t", name, u, ok)
		}
		if !slices.Equal(s, was) {
			t.Errorf("%s: changed", name)
		}
	}
}

func first(s frame.Stack, _ []frame.Frame) frame.Stack {
	return s
}

// P12.1: of two and more, into each register: Into is the last one's, the register the one's below.
func TestReturn(t *testing.T) {
	for many := 2; many < 18; many++ {
		for into := range 8 {
			for _, v := range []int64{0, 42, -1, math.MinInt64, math.MaxInt64} {
				s, l := deep(many)
				s.Top().Into = into
				l[many-1].Into = into
				u, ok := s.Return(v)
				if !ok {
					t.Fatalf("Return at %d frames: false", many)
				}
				want := slices.Clone(l[:many-1])
				want[many-2].R[into] = v
				check(t, "Return", u, want...)
				check(t, "what was returned from", s, l...)
			}
		}
	}
}

// P12.1: only the last one's Into counts.
func TestReturnAsksTheLastInto(t *testing.T) {
	s := frame.Begin(0, 0)
	for i := range 15 {
		s, _ = s.Call(i, 0, i%8)
	}
	for i := 14; i >= 0; i-- {
		s, _ = s.Return(int64(100 + i))
		if r := s.Top().R; r[i%8] != int64(100+i) {
			t.Fatalf("at %d: %v", i, r)
		}
	}
	check(t, "all returned", s, frame.Frame{R: [8]int64{100}})
}

// K3
func TestReturnGoesItsOwnWay(t *testing.T) {
	for many := 2; many < 18; many++ {
		s, l := deep(many)
		u, _ := s.Return(5)
		was := slices.Clone(u)
		spoil(s)
		check(t, "made by Return", u, was...)
		s, _ = deep(many)
		u, _ = s.Return(5)
		spoil(u)
		check(t, "returned from", s, l...)
	}
}

// K3: what is called on a stack that came by Return doesn't show in that which it came from.
func TestCallBehindReturn(t *testing.T) {
	for many := 2; many < 16; many++ {
		s, l := deep(many)
		u, _ := s.Return(5)
		w, _ := s.Return(6)
		a, _ := u.Call(14, 1, 1)
		b, _ := u.Call(15, 2, 2)
		c, _ := s[:many-1].Call(13, 3, 3)
		check(t, "the one from which all came", s, l...)
		if a.Top().Func != 14 || b.Top().Func != 15 || c.Top().Func != 13 || len(w) != many-1 {
			t.Fatal("they run over each other")
		}
		if u.Top().R[l[many-1].Into] != 5 || w.Top().R[l[many-1].Into] != 6 {
			t.Fatal("what they returned runs over the other one's")
		}
	}
}

// P12.1
func TestClone(t *testing.T) {
	check(t, "of nil", frame.Stack(nil).Clone())
	check(t, "of none", frame.Stack{}.Clone())
	for many := range 18 {
		s, l := deep(many)
		u := s.Clone()
		check(t, "Clone", u, l...)
		spoil(s)
		check(t, "the first one was changed", u, l...)
		s, l = deep(many)
		u = s.Clone()
		spoil(u)
		check(t, "Clone was changed", s, l...)
		u = s.Clone()
		u, _ = u.Call(1, 1, 1)
		u, _ = u.Return(9)
		spoil(u)
		check(t, "Clone went on", s, l...)
	}
}

// P12.1: a Clone of none can be called on.
func TestCloneOfNone(t *testing.T) {
	all, l := deep(3)
	s := all[:0].Clone()
	s, ok := s.Call(7, 7, 7)
	if !ok {
		t.Error("Call: false")
	}
	check(t, "called", s, frame.Frame{Func: 7, R: [8]int64{7}, Into: 7})
	check(t, "all", all, l...)
}
