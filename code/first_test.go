package code_test

import (
	"math"
	"testing"

	"shunter/api"
	"shunter/code"
)

// outside: is one of those numbers not from low to high?
func outside(low, high int, l ...int) bool {
	for _, v := range l {
		if v < low || v > high {
			return true
		}
	}
	return false
}

// partsErr is the first error of a program's parts, by the chapter's words.
func partsErr(p code.Program) api.Errno {
	if len(p.Funcs) == 0 || len(p.Funcs) > 16 || len(p.Chans) > 8 || len(p.Cases) > 32 || outside(0, 8, p.Locks) {
		return api.ErrBig
	}
	if outside(0, 16, p.Chans...) {
		return api.ErrArg
	}
	for _, c := range p.Cases {
		if outside(0, 2, c.Way) || c.Way < 2 && (outside(0, len(p.Chans)-1, c.Chan) || outside(0, 7, c.Reg)) {
			return api.ErrArg
		}
	}
	return api.OK
}

// insErr is an instruction's error, by the chapter's words.
func insErr(p code.Program, f []code.Ins, x code.Ins) api.Errno {
	if outside(0, 22, int(x.Op)) {
		return api.ErrKind
	}
	a := around{len(p.Funcs), len(f), len(p.Chans), p.Locks, len(p.Cases)}
	for place, v := range [...]int{x.A, x.B, x.C} {
		low, high := a.bounds(has(int(x.Op), place), x.A)
		if outside(low, high, v) {
			return api.ErrArg
		}
	}
	return api.OK
}

// firstFault is the first of all faults.
func firstFault(p code.Program) code.Fault {
	if err := partsErr(p); err != api.OK {
		return parts(err)
	}
	for i, f := range p.Funcs {
		if len(f) == 0 || len(f) > 64 {
			return code.Fault{Func: i, At: -1, Err: api.ErrBig}
		}
		for at, x := range f {
			if err := insErr(p, f, x); err != api.OK {
				return code.Fault{Func: i, At: at, Err: err}
			}
		}
	}
	return code.Fault{}
}

// draws are numbers that look drawn, the same ones each time.
type draws uint32

func (d *draws) below(n int) int {
	*d = *d*1664525 + 1013904223
	return int(*d>>8) % n
}

// fit is an instruction of any op that may be there.
func (d *draws) fit(a around) code.Ins {
	for {
		op := d.below(23)
		x, ok := a.lowest(op)
		if !ok {
			continue
		}
		for place := range 3 {
			low, high := a.bounds(has(op, place), x.A)
			if has(op, place) == "any" {
				low, high = -1000, 1000
			}
			x = set(x, place, low+d.below(high-low+1))
		}
		return x
	}
}

// fits is a program that may be, with functions of many lengths.
func (d *draws) fits(a around) code.Program {
	p := code.Program{Locks: a.locks}
	for range a.chans {
		p.Chans = append(p.Chans, d.below(17))
	}
	for range a.cases {
		c := code.Case{Way: code.WayElse, Chan: d.below(20) - 9, Reg: d.below(20) - 9}
		if a.chans > 0 && d.below(3) > 0 {
			c = code.Case{Way: d.below(2), Chan: d.below(a.chans), Reg: d.below(8)}
		}
		p.Cases = append(p.Cases, c)
	}
	for range a.funcs {
		a.length = 1 + d.below(64)
		var f []code.Ins
		for range a.length {
			f = append(f, d.fit(a))
		}
		p.Funcs = append(p.Funcs, f)
	}
	return p
}

// spoil makes something of a program other, that may be a fault or not.
func (d *draws) spoil(p *code.Program) {
	v := []int{math.MinInt, -1, 0, 1, 7, 8, 16, 17, 40, 64, 1 << 20, 1 << 40, math.MaxInt}[d.below(13)]
	i := d.below(len(p.Funcs))
	at := d.below(max(len(p.Funcs[i]), 1))
	c := code.Case{Way: d.below(5) - 1, Chan: d.below(12) - 2, Reg: d.below(12) - 2}
	switch n := d.below(40); {
	case n == 0:
		p.Funcs = append(p.Funcs, row(nops(1), d.below(18))...)
	case n == 1:
		p.Locks = v
	case n == 2:
		p.Chans = append(p.Chans, v)
	case n == 3:
		p.Chans = append(p.Chans, row(1, d.below(10))...)
	case n == 4:
		p.Cases = append(p.Cases, c)
	case n == 5:
		p.Cases = append(p.Cases, row(code.Case{Way: code.WayElse}, d.below(40))...)
	case n == 6 && len(p.Cases) > 0:
		p.Cases[d.below(len(p.Cases))] = c
	case n == 7 && len(p.Chans) > 0:
		p.Chans[d.below(len(p.Chans))] = v
	case n == 8:
		p.Cases = p.Cases[:len(p.Cases)/2]
	case n == 9:
		p.Funcs[i] = append(p.Funcs[i], row(code.Ins{}, d.below(66))...)
	case n == 10:
		p.Funcs[i] = p.Funcs[i][:0]
	case at == len(p.Funcs[i]): // a function of none
	case n < 18:
		p.Funcs[i][at].Op = code.Op(d.below(40) - 8)
	default:
		p.Funcs[i][at] = set(p.Funcs[i][at], d.below(3), v)
	}
}

// P10.1: any programs, with no faults, one, or several: the first one is told.
func TestTheFirstFaultIsTold(t *testing.T) {
	d := draws(11)
	told := map[code.Fault]int{}
	kinds := map[api.Errno]int{}
	for i := range 10000 {
		a := arounds()[i%len(arounds())]
		p := d.fits(a)
		check(t, "a program that may be", p, code.Fault{})
		for range 12 {
			d.spoil(&p)
			want := firstFault(p)
			check(t, "a program", p, want)
			told[want]++
			kinds[want.Err]++
			if t.Failed() {
				t.Fatalf("program %d: %+v", i, p)
			}
			if want.Func < 0 && d.below(3) == 0 {
				break
			}
		}
	}
	// Else the programs would be too much alike to hold anything.
	if len(told) < 200 || kinds[api.OK] < 1000 || kinds[api.ErrBig] < 1000 || kinds[api.ErrKind] < 1000 || kinds[api.ErrArg] < 1000 {
		t.Errorf("%d faults, by errors %v", len(told), kinds)
	}
}

// P10.1: of two faults the one that the chapter names first.
func TestTwoFaults(t *testing.T) {
	many := code.Case{Way: code.WayElse}
	wrong := code.Ins{Op: code.Emit, A: 8}
	for i, c := range []struct {
		p    code.Program
		want code.Fault
	}{
		// of the parts: those above a limit ahead of what stands in them
		{code.Program{Chans: []int{17}}, parts(api.ErrBig)},
		{code.Program{Cases: []code.Case{{Way: 3}}}, parts(api.ErrBig)},
		{code.Program{Funcs: row(nops(1), 17), Chans: []int{-1}}, parts(api.ErrBig)},
		{code.Program{Funcs: row(nops(1), 1), Chans: row(17, 9)}, parts(api.ErrBig)},
		{code.Program{Funcs: row(nops(1), 1), Chans: []int{17}, Cases: row(many, 33)}, parts(api.ErrBig)},
		{code.Program{Funcs: row(nops(1), 1), Cases: []code.Case{{Way: -1}}, Locks: 9}, parts(api.ErrBig)},
		{code.Program{Funcs: row(nops(1), 1), Chans: []int{-1}, Locks: -1}, parts(api.ErrBig)},
		// the parts ahead of functions
		{code.Program{Funcs: row(nops(0), 17)}, parts(api.ErrBig)},
		{code.Program{Funcs: [][]code.Ins{nil}, Locks: 9}, parts(api.ErrBig)},
		{code.Program{Funcs: [][]code.Ins{nil}, Chans: []int{17}}, parts(api.ErrArg)},
		{code.Program{Funcs: [][]code.Ins{nil}, Cases: []code.Case{{Way: 3}}}, parts(api.ErrArg)},
		{code.Program{Funcs: [][]code.Ins{{{Op: 23}}}, Cases: []code.Case{{Way: 0}}}, parts(api.ErrArg)},
		// function by function
		{of(nil, nil), code.Fault{Func: 0, At: -1, Err: api.ErrBig}},
		{of([]code.Ins{wrong}, nil), code.Fault{Func: 0, At: 0, Err: api.ErrArg}},
		{of(nil, []code.Ins{wrong}), code.Fault{Func: 0, At: -1, Err: api.ErrBig}},
		{of(nops(1), append(nops(3), wrong), nops(65)), code.Fault{Func: 1, At: 3, Err: api.ErrArg}},
		{of(nops(1), row(wrong, 65)), code.Fault{Func: 1, At: -1, Err: api.ErrBig}},
		// instruction by instruction
		{of([]code.Ins{{}, wrong, {Op: 23}}), code.Fault{Func: 0, At: 1, Err: api.ErrArg}},
		{of([]code.Ins{{}, {Op: -1}, wrong}), code.Fault{Func: 0, At: 1, Err: api.ErrKind}},
		{of([]code.Ins{{}, {Op: 23, A: -1}}), code.Fault{Func: 0, At: 1, Err: api.ErrKind}},
		{of([]code.Ins{{}}, []code.Ins{{}, {}, {Op: 23}}, []code.Ins{{Op: 23}}), code.Fault{Func: 1, At: 2, Err: api.ErrKind}},
	} {
		check(t, "two faults", c.p, c.want)
		if t.Failed() {
			t.Fatalf("two faults: %d", i)
		}
	}
}
