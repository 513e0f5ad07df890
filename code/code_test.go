package code_test

import (
	"math"
	"reflect"
	"slices"
	"testing"

	"shunter/api"
	"shunter/code"
)

// parts is a fault of a program's parts.
func parts(err api.Errno) code.Fault {
	return code.Fault{Func: -1, At: -1, Err: err}
}

// check holds a program against where it may not be; a zero fault: it may be.
func check(t *testing.T, name string, p code.Program, want code.Fault) {
	t.Helper()
	if f, ok := p.Check(); f != want || ok != (want == code.Fault{}) {
		t.Errorf("%s: %+v, %t, not %+v", name, f, ok, want)
	}
}

// row is so many of the same.
func row[T any](v T, many int) []T {
	l := make([]T, many)
	for i := range l {
		l[i] = v
	}
	return l
}

// of is a program of functions alone.
func of(funcs ...[]code.Ins) code.Program {
	return code.Program{Funcs: funcs}
}

// nops is a function of so many instructions.
func nops(many int) []code.Ins {
	return row(code.Ins{}, many)
}

// P10.1: the chapter's example.
func TestExample(t *testing.T) {
	check(t, "one Nop", of(nops(1)), code.Fault{})
	check(t, "no functions", of(), parts(api.ErrBig))
}

// P10.1
func TestOpsAndWays(t *testing.T) {
	for i, op := range []code.Op{
		code.Nop, code.Const, code.Move, code.Add, code.Sub, code.Mul, code.Less, code.Jump, code.If, code.Call, code.Return, code.Spawn,
		code.Yield, code.Send, code.Recv, code.Close, code.Select, code.Sleep, code.Lock, code.Unlock, code.Emit, code.Rand, code.Trap,
	} {
		if int(op) != i {
			t.Errorf("op %d is %d", i, op)
		}
	}
	if code.WayRecv != 0 || code.WaySend != 1 || code.WayElse != 2 {
		t.Error("ways")
	}
}

// P10.1
func TestHowManyFunctions(t *testing.T) {
	for many, ok := range map[int]bool{0: false, 1: true, 2: true, 15: true, 16: true, 17: false, 18: false, 1000: false} {
		want := code.Fault{}
		if !ok {
			want = parts(api.ErrBig)
		}
		check(t, "functions", of(row(nops(1), many)...), want)
	}
}

// P10.1
func TestHowManyInstructions(t *testing.T) {
	for many, ok := range map[int]bool{0: false, 1: true, 2: true, 63: true, 64: true, 65: false, 66: false, 1000: false} {
		for place := range 3 {
			funcs := row(nops(1), 3)
			funcs[place] = nops(many)
			want := code.Fault{}
			if !ok {
				want = code.Fault{Func: place, At: -1, Err: api.ErrBig}
			}
			check(t, "instructions", of(funcs...), want)
		}
	}
	check(t, "the longest one", of(row(nops(64), 16)...), code.Fault{})
	check(t, "a nil function", of(nil), code.Fault{At: -1, Err: api.ErrBig})
}

// P10.1
func TestHowManyChannels(t *testing.T) {
	for many, ok := range map[int]bool{0: true, 1: true, 7: true, 8: true, 9: false, 10: false, 1000: false} {
		want := code.Fault{}
		if !ok {
			want = parts(api.ErrBig)
		}
		p := of(nops(1))
		p.Chans = row(1, many)
		check(t, "channels", p, want)
	}
}

// P10.1
func TestHowManyCases(t *testing.T) {
	for many, ok := range map[int]bool{0: true, 1: true, 31: true, 32: true, 33: false, 34: false, 1000: false} {
		want := code.Fault{}
		if !ok {
			want = parts(api.ErrBig)
		}
		p := of(nops(1))
		p.Cases = row(code.Case{Way: code.WayElse}, many)
		check(t, "cases", p, want)
	}
}

// P10.1
func TestHowManyLocks(t *testing.T) {
	for many, ok := range map[int]bool{0: true, 1: true, 7: true, 8: true, -1: false, 9: false, 10: false, math.MinInt: false, math.MaxInt: false} {
		want := code.Fault{}
		if !ok {
			want = parts(api.ErrBig)
		}
		p := of(nops(1))
		p.Locks = many
		check(t, "locks", p, want)
	}
}

// P10.1
func TestRooms(t *testing.T) {
	for room, ok := range map[int]bool{0: true, 1: true, 15: true, 16: true, -1: false, 17: false, math.MinInt: false, math.MaxInt: false} {
		for many := 1; many <= api.MaxChan; many++ {
			for place := range many {
				want := code.Fault{}
				if !ok {
					want = parts(api.ErrArg)
				}
				p := of(nops(1))
				p.Chans = row(3, many)
				p.Chans[place] = room
				check(t, "a channel's room", p, want)
			}
		}
	}
}

// P10.1: each Way with and without a channel, and a register, that is there.
func TestCases(t *testing.T) {
	numbers := []int{math.MinInt, -2, -1, 0, 1, 2, 3, 6, 7, 8, 9, math.MaxInt}
	for _, chans := range []int{0, 1, 2, 8} {
		for _, way := range numbers {
			for _, c := range numbers {
				for _, reg := range numbers {
					ok := way == 2 || (way == 0 || way == 1) && c >= 0 && c < chans && reg >= 0 && reg < 8
					for place := range 3 {
						p := of(nops(1))
						p.Chans = row(0, chans)
						p.Cases = row(code.Case{Way: code.WayElse}, 3)
						p.Cases[place] = code.Case{Way: way, Chan: c, Reg: reg}
						want := code.Fault{}
						if !ok {
							want = parts(api.ErrArg)
						}
						check(t, "a case", p, want)
					}
					if t.Failed() {
						t.Fatalf("%d channels, way %d, channel %d, register %d", chans, way, c, reg)
					}
				}
			}
		}
	}
}

// P10.1
func TestOpsThatAreNot(t *testing.T) {
	for _, op := range []int{-1, -2, 23, 24, 255, 256, 1 << 20, 1 << 32, math.MinInt, math.MaxInt} {
		for place := range 3 {
			for at := range 4 {
				funcs := [][]code.Ins{nops(4), nops(4), nops(4)}
				funcs[place][at] = code.Ins{Op: code.Op(op)}
				check(t, "no op", of(funcs...), code.Fault{Func: place, At: at, Err: api.ErrKind})
				funcs[place][at] = code.Ins{Op: code.Op(op), A: -1, B: -1, C: -1}
				check(t, "no op, with fields", of(funcs...), code.Fault{Func: place, At: at, Err: api.ErrKind})
			}
		}
	}
}

// P10.1: nil lists are empty ones (K1).
func TestNilLists(t *testing.T) {
	for _, x := range []code.Ins{{Op: code.Send}, {Op: code.Recv}, {Op: code.Close}, {Op: code.Select, B: 1}, {Op: code.Select}, {Op: code.Lock}, {Op: code.Unlock}} {
		p := of([]code.Ins{x})
		check(t, "nil ones", p, code.Fault{Err: api.ErrArg})
		p.Chans, p.Cases = []int{}, []code.Case{}
		check(t, "empty ones", p, code.Fault{Err: api.ErrArg})
	}
	check(t, "no functions", code.Program{Funcs: [][]code.Ins{}}, parts(api.ErrBig))
	check(t, "a zero program", code.Program{}, parts(api.ErrBig))
}

// clone is a program in memory of its own.
func clone(p code.Program) code.Program {
	c := code.Program{Chans: slices.Clone(p.Chans), Locks: p.Locks, Cases: slices.Clone(p.Cases)}
	for _, f := range p.Funcs {
		c.Funcs = append(c.Funcs, slices.Clone(f))
	}
	return c
}

// K3, K4: a program that is looked at stays as it is, and is answered the same again.
func TestAProgramStays(t *testing.T) {
	good := around{funcs: 3, length: 5, chans: 2, locks: 1, cases: 4}.program()
	good.Funcs[1] = []code.Ins{{Op: code.Const, A: 7, B: -9}, {Op: code.Select, A: 1, B: 3, C: 7}, {Op: code.Call, A: 2, B: 1}, {Op: code.Trap, A: 5}}
	bad := clone(good)
	bad.Funcs[1][3].A = -1
	for range 3 {
		for _, p := range []code.Program{good, bad} {
			copied := clone(p)
			want := code.Fault{}
			if p.Funcs[1][3].A < 0 {
				want = code.Fault{Func: 1, At: 3, Err: api.ErrArg}
			}
			check(t, "a program", p, want)
			if !reflect.DeepEqual(p, copied) {
				t.Errorf("it became %+v", p)
			}
		}
	}
}
