package frame_test

import (
	"math"
	"math/big"
	"testing"

	"shunter/code"
	"shunter/frame"
)

// pure are the ops that registers alone decide.
var pure = map[code.Op]bool{
	code.Nop: true, code.Const: true, code.Move: true, code.Add: true, code.Sub: true, code.Mul: true, code.Less: true, code.Jump: true, code.If: true,
}

// great are numbers at which sums and products go round, and small ones.
var great = []int64{
	0, 1, 2, 3, 7, -1, -2, -3, math.MaxInt64, math.MaxInt64 - 1, math.MinInt64, math.MinInt64 + 1,
	1 << 31, 1 << 32, 1<<32 + 1, 1 << 62, 1 << 63 >> 1, -1 << 31, -1 << 32, -1 << 62, 3037000499, 3037000500, -3037000500, 123456789012345678,
}

// filled is a frame whose fields are all other than 0, and than each other.
func filled() frame.Frame {
	return frame.Frame{Func: 11, At: 40, R: [8]int64{100, -101, 102, -103, 104, -105, 106, -107}, Into: 6}
}

// do holds an instruction, done at a frame, against the frame that comes of it.
func do(t *testing.T, f frame.Frame, x code.Ins, want frame.Frame) {
	t.Helper()
	got := f
	if !got.Pure(x) || got != want {
		t.Errorf("%+v at %+v: %+v, not %+v", x, f, got, want)
	}
}

// set is a frame, an instruction further, with a register that has another number.
func set(f frame.Frame, register int, v int64) frame.Frame {
	f.At++
	f.R[register] = v
	return f
}

// P12.1: the chapter's example.
func TestExample(t *testing.T) {
	s := frame.Begin(0, 5)
	if !s.Top().Pure(code.Ins{Op: code.Const, A: 1, B: 7}) || !s.Top().Pure(code.Ins{Op: code.Add, A: 2, B: 0, C: 1}) {
		t.Error("Pure: false")
	}
	if f := *s.Top(); f.R[2] != 12 || f.At != 2 {
		t.Errorf("%+v", f)
	}
}

// P12.1
func TestNop(t *testing.T) {
	for _, at := range []int{0, 1, 40, 63} {
		f := filled()
		f.At = at
		want := f
		want.At = at + 1
		do(t, f, code.Ins{Op: code.Nop}, want)
	}
}

// P12.1: each register, and numbers of all sizes.
func TestConst(t *testing.T) {
	for a := range 8 {
		for _, v := range great {
			do(t, filled(), code.Ins{Op: code.Const, A: a, B: int(v)}, set(filled(), a, v))
		}
	}
}

// P12.1: each register into each one, itself too.
func TestMove(t *testing.T) {
	for a := range 8 {
		for b := range 8 {
			do(t, filled(), code.Ins{Op: code.Move, A: a, B: b}, set(filled(), a, filled().R[b]))
		}
	}
}

// round is a number modulo 2^64, with a sign.
func round(v *big.Int) int64 {
	all := new(big.Int).Lsh(big.NewInt(1), 64)
	r := new(big.Int).Mod(v, all)
	if r.Bit(63) == 1 {
		r.Sub(r, all)
	}
	return r.Int64()
}

// together is what an op makes of two numbers, without bounds first.
func together(op code.Op, b, c int64) int64 {
	x, y, r := big.NewInt(b), big.NewInt(c), new(big.Int)
	switch op {
	case code.Add:
		return round(r.Add(x, y))
	case code.Sub:
		return round(r.Sub(x, y))
	case code.Mul:
		return round(r.Mul(x, y))
	}
	if x.Cmp(y) < 0 {
		return 1
	}
	return 0
}

// P12.1: sums and products go round at 2^64; Less of numbers below 0, alike and at both ends.
func TestTwoNumbers(t *testing.T) {
	for _, op := range []code.Op{code.Add, code.Sub, code.Mul, code.Less} {
		for _, b := range great {
			for _, c := range great {
				f := filled()
				f.R[1], f.R[2] = b, c
				do(t, f, code.Ins{Op: op, A: 5, B: 1, C: 2}, set(f, 5, together(op, b, c)))
			}
		}
	}
}

// P12.1: some of those numbers, one by one.
func TestSomeSums(t *testing.T) {
	for _, x := range []struct {
		op      code.Op
		b, c, v int64
	}{
		{code.Add, math.MaxInt64, 1, math.MinInt64}, {code.Add, math.MinInt64, -1, math.MaxInt64}, {code.Add, math.MinInt64, math.MinInt64, 0}, {code.Add, 3, 4, 7},
		{code.Sub, math.MinInt64, 1, math.MaxInt64}, {code.Sub, 0, math.MinInt64, math.MinInt64}, {code.Sub, 3, 4, -1},
		{code.Mul, math.MinInt64, -1, math.MinInt64}, {code.Mul, math.MaxInt64, 2, -2}, {code.Mul, 1 << 32, 1 << 32, 0}, {code.Mul, -3, 4, -12},
		{code.Less, -1, 0, 1}, {code.Less, 0, -1, 0}, {code.Less, math.MinInt64, math.MaxInt64, 1}, {code.Less, math.MaxInt64, math.MinInt64, 0}, {code.Less, 4, 4, 0}, {code.Less, -5, -4, 1}, {code.Less, -4, -5, 0},
	} {
		f := filled()
		f.R[3], f.R[0] = x.b, x.c
		do(t, f, code.Ins{Op: x.op, A: 7, B: 3, C: 0}, set(f, 7, x.v))
	}
}

// P12.1: all registers, those too that are read and written by one instruction.
func TestAllRegisters(t *testing.T) {
	for _, op := range []code.Op{code.Add, code.Sub, code.Mul, code.Less} {
		for a := range 8 {
			for b := range 8 {
				for c := range 8 {
					f := filled()
					do(t, f, code.Ins{Op: op, A: a, B: b, C: c}, set(f, a, together(op, f.R[b], f.R[c])))
				}
			}
		}
	}
}

// P12.1: ahead, behind, onto itself, and to where it would go anyhow.
func TestJump(t *testing.T) {
	for at := range 64 {
		for _, to := range []int{0, 1, at, (at + 1) % 64, 62, 63} {
			f := filled()
			f.At = at
			want := f
			want.At = to
			do(t, f, code.Ins{Op: code.Jump, A: to}, want)
		}
	}
}

// P12.1: taken by each number but 0, of each register.
func TestIf(t *testing.T) {
	for a := range 8 {
		for _, v := range great {
			for _, to := range []int{0, 20, 21, 22, 63} {
				f := filled()
				f.At, f.R[a] = 20, v
				want := f
				want.At = to
				if v == 0 {
					want.At = 21
				}
				do(t, f, code.Ins{Op: code.If, A: a, B: to}, want)
			}
		}
	}
}

// P12.1: the register that is asked is A, not another one.
func TestIfAsksItsRegister(t *testing.T) {
	for a := range 8 {
		for other := range 8 {
			f := frame.Frame{At: 3}
			f.R[other] = 1
			want := f
			want.At = 4
			if a == other {
				want.At = 9
			}
			do(t, f, code.Ins{Op: code.If, A: a, B: 9}, want)
		}
	}
}

// P12.1: ops of others, and such as there aren't: nothing changes.
func TestNotPure(t *testing.T) {
	ops := []code.Op{-1, 23, 24, 100, -23, math.MaxInt, math.MinInt, 1 << 32, 1 << 8}
	for op := code.Nop; op <= code.Trap; op++ {
		if !pure[op] {
			ops = append(ops, op)
		}
	}
	if len(ops) != 9+14 {
		t.Fatalf("%d ops", len(ops))
	}
	for _, op := range ops {
		for _, x := range []code.Ins{{}, {A: 1, B: 2, C: 3}, {A: 7, B: 7, C: 7}, {A: 0, B: 1, C: 1}} {
			x.Op = op
			for _, f := range []frame.Frame{filled(), {}, *frame.Begin(3, 5).Top()} {
				was := f
				if f.Pure(x) || f != was {
					t.Errorf("%+v: true, or changed: %+v, not %+v", x, f, was)
				}
			}
		}
	}
}

// P12.1: of all ops just these.
func TestWhichArePure(t *testing.T) {
	for op := code.Op(-5); op < 40; op++ {
		f := filled()
		if f.Pure(code.Ins{Op: op}) != pure[op] {
			t.Errorf("op %d: %t", op, !pure[op])
		}
	}
}

// P12.1: At is one more, whatever it was; there's no instruction there, but nobody asks for one.
func TestAtAnywhere(t *testing.T) {
	for _, at := range []int{-1, 0, 63, 64, 1 << 40} {
		f := filled()
		f.At = at
		do(t, f, code.Ins{Op: code.Const, A: 2, B: 9}, set(f, 2, 9))
	}
}

// P12.1: a row of instructions, a loop: 5! by products.
func TestLoop(t *testing.T) {
	f := []code.Ins{
		{Op: code.Const, A: 1, B: 1},
		{Op: code.Const, A: 2, B: 1},
		{Op: code.Less, A: 3, B: 2, C: 0},
		{Op: code.If, A: 3, B: 6},
		{Op: code.Mul, A: 1, B: 1, C: 0},
		{Op: code.Yield},
		{Op: code.Mul, A: 1, B: 1, C: 0},
		{Op: code.Sub, A: 0, B: 0, C: 2},
		{Op: code.Jump, A: 2},
	}
	s := frame.Begin(0, 5)
	for s.Top().Pure(f[s.Top().At]) {
	}
	if top := *s.Top(); top.At != 5 || top.R[1] != 120 || top.R[0] != 1 {
		t.Errorf("%+v", top)
	}
}

// K4: a frame does the same, whatever others did meanwhile.
func TestAgain(t *testing.T) {
	for range 100 {
		for op := range pure {
			x := code.Ins{Op: op, A: 1, B: 2, C: 3}
			a, b := filled(), filled()
			a.Pure(x)
			other := frame.Frame{R: [8]int64{9, 9, 9, 9}}
			other.Pure(x)
			b.Pure(x)
			if a != b {
				t.Fatalf("op %d: %+v, then %+v", op, a, b)
			}
		}
	}
}
