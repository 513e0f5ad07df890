package frame_test

import (
	"math/rand"
	"slices"
	"testing"

	"shunter/code"
	"shunter/frame"
)

// pair is a stack, and what it should be, in memory that the package never saw.
type pair struct {
	stack frame.Stack
	want  []frame.Frame
}

// family is stacks that were made of each other.
type family struct {
	t     *testing.T
	r     *rand.Rand
	pairs []pair
}

// pick is any of them.
func (f *family) pick() pair {
	return f.pairs[f.r.Intn(len(f.pairs))]
}

// add: one more; when there are many, it takes another one's place.
func (f *family) add(s frame.Stack, want []frame.Frame) {
	p := pair{s, slices.Clone(want)}
	if len(f.pairs) < 12 {
		f.pairs = append(f.pairs, p)
		return
	}
	f.pairs[f.r.Intn(len(f.pairs))] = p
}

func (f *family) call() {
	p := f.pick()
	fun, arg, into := f.r.Intn(16), int64(f.r.Uint64()), f.r.Intn(8)
	s, ok := p.stack.Call(fun, arg, into)
	if ok != (len(p.want) < 16) {
		f.t.Fatalf("Call at %d frames: %t", len(p.want), ok)
	}
	want := slices.Clone(p.want)
	if ok {
		want = append(want, frame.Frame{Func: fun, R: [8]int64{arg}, Into: into})
	}
	f.add(s, want)
}

func (f *family) giveBack() {
	p := f.pick()
	v := int64(f.r.Uint64())
	s, ok := p.stack.Return(v)
	if ok != (len(p.want) >= 2) {
		f.t.Fatalf("Return at %d frames: %t", len(p.want), ok)
	}
	if !ok {
		if s != nil {
			f.t.Fatalf("Return: %+v, false", s)
		}
		return
	}
	want := slices.Clone(p.want[:len(p.want)-1])
	want[len(want)-1].R[p.want[len(want)].Into] = v
	f.add(s, want)
}

// step does an instruction at the top of one of them.
func (f *family) step() {
	p := f.pick()
	if len(p.want) == 0 {
		return
	}
	x := code.Ins{Op: code.Op(f.r.Intn(25) - 1), A: f.r.Intn(8), B: f.r.Intn(8), C: f.r.Intn(8)}
	last := &p.want[len(p.want)-1]
	*last = after(*last, x)
	if p.stack.Top().Pure(x) != pure[x.Op] {
		f.t.Fatalf("%+v: %t", x, !pure[x.Op])
	}
}

// after is a frame behind an instruction, by the chapter's words.
func after(f frame.Frame, x code.Ins) frame.Frame {
	if !pure[x.Op] {
		return f
	}
	f.At++
	switch x.Op {
	case code.Const:
		f.R[x.A] = int64(x.B)
	case code.Move:
		f.R[x.A] = f.R[x.B]
	case code.Add, code.Sub, code.Mul, code.Less:
		f.R[x.A] = together(x.Op, f.R[x.B], f.R[x.C])
	case code.Jump:
		f.At = x.A
	case code.If:
		if f.R[x.A] != 0 {
			f.At = x.B
		}
	}
	return f
}

func (f *family) clone() {
	p := f.pick()
	f.add(p.stack.Clone(), p.want)
}

// cut is one without its last frames, which stay in memory behind it; the one it was cut from goes, as they share what both have.
func (f *family) cut() {
	i := f.r.Intn(len(f.pairs))
	p := f.pairs[i]
	n := f.r.Intn(len(p.want) + 1)
	f.pairs[i] = pair{p.stack[:n], p.want[:n]}
}

func (f *family) check(name string) {
	f.t.Helper()
	for i, p := range f.pairs {
		if !slices.Equal(p.stack, p.want) {
			f.t.Fatalf("behind %s, stack %d: %+v, not %+v", name, i, p.stack, p.want)
		}
	}
}

// P12.1, K3: some hundred rows of calls of stacks made of each other, each of which is as if it were alone.
func TestManyStacks(t *testing.T) {
	for seed := range int64(200) {
		f := &family{t: t, r: rand.New(rand.NewSource(seed))}
		f.add(frame.Begin(1, 2), []frame.Frame{{Func: 1, R: [8]int64{2}}})
		for range 400 {
			switch k := f.r.Intn(20); {
			case k < 8:
				f.call()
			case k < 11:
				f.giveBack()
			case k < 17:
				f.step()
			case k < 18:
				f.clone()
			case k < 19:
				f.cut()
			default:
				fun := f.r.Intn(16)
				f.add(frame.Begin(fun, -3), []frame.Frame{{Func: fun, R: [8]int64{-3}}})
			}
			f.check("a call")
		}
	}
}
