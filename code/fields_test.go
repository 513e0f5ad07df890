package code_test

import (
	"math"
	"slices"
	"testing"

	"shunter/api"
	"shunter/code"
)

// table is the chapter's: what each op has as A, B, C, with the ops as places.
var table = [][]string{
	{},                                   // Nop
	{"register", "any"},                  // Const
	{"register", "register"},             // Move
	{"register", "register", "register"}, // Add
	{"register", "register", "register"}, // Sub
	{"register", "register", "register"}, // Mul
	{"register", "register", "register"}, // Less
	{"label"},                            // Jump
	{"register", "label"},                // If
	{"function", "register", "register"}, // Call
	{"register"},                         // Return
	{"function", "register", "register"}, // Spawn
	{},                                   // Yield
	{"channel", "register"},              // Send
	{"channel", "register", "register"},  // Recv
	{"channel"},                          // Close
	{"first", "count", "register"},       // Select
	{"register"},                         // Sleep
	{"lock"},                             // Lock
	{"lock"},                             // Unlock
	{"register"},                         // Emit
	{"register", "above"},                // Rand
	{"nat"},                              // Trap
}

// has is what an op has at a place (0: A).
func has(op, place int) string {
	if l := table[op]; place < len(l) {
		return l[place]
	}
	return "none"
}

// around is what there is for an instruction: so many of each.
type around struct{ funcs, length, chans, locks, cases int }

// program is one that may be, whose last function has that length; the others are longer.
func (a around) program() code.Program {
	p := code.Program{Chans: row(1, a.chans), Locks: a.locks, Cases: row(code.Case{Way: code.WayElse}, a.cases)}
	for range a.funcs - 1 {
		p.Funcs = append(p.Funcs, nops(min(a.length+1, 64)))
	}
	p.Funcs = append(p.Funcs, nops(a.length))
	return p
}

// bounds is the lowest and the highest that a field may be, behind a first that may be.
func (a around) bounds(field string, first int) (int, int) {
	switch field {
	case "any":
		return math.MinInt, math.MaxInt
	case "register":
		return 0, 7
	case "label":
		return 0, a.length - 1
	case "function":
		return 0, a.funcs - 1
	case "channel":
		return 0, a.chans - 1
	case "lock":
		return 0, a.locks - 1
	case "first":
		return 0, a.cases - 1
	case "count":
		return 1, a.cases - first
	case "above":
		return 1, 1099511627775
	case "nat":
		return 0, 1048575
	}
	return 0, 0
}

// arounds are few and many of all.
func arounds() []around {
	return []around{
		{1, 1, 1, 1, 1}, {1, 2, 1, 2, 1}, {2, 1, 3, 1, 2}, {3, 5, 2, 4, 7}, {16, 64, 8, 8, 32}, {5, 63, 7, 7, 31},
		{1, 1, 0, 0, 0}, {2, 9, 0, 3, 4}, {9, 2, 4, 0, 3}, {4, 11, 5, 6, 0},
	}
}

// set is an instruction with one field other.
func set(x code.Ins, place, v int) code.Ins {
	switch place {
	case 0:
		x.A = v
	case 1:
		x.B = v
	default:
		x.C = v
	}
	return x
}

// lowest is an instruction with each field at its lowest; false: it can't be there.
func (a around) lowest(op int) (code.Ins, bool) {
	x := code.Ins{Op: code.Op(op)}
	ok := true
	for place := range 3 {
		low, high := a.bounds(has(op, place), 0)
		x = set(x, place, low)
		ok = ok && low <= high
	}
	return x, ok
}

// checkIns holds an instruction, in the last function, against whether it may be.
func (a around) checkIns(t *testing.T, x code.Ins, ok bool) {
	t.Helper()
	p := a.program()
	f := p.Funcs[a.funcs-1]
	for _, at := range []int{0, a.length - 1} {
		copy(f, nops(a.length))
		f[at] = x
		want := code.Fault{}
		if !ok {
			want = code.Fault{Func: a.funcs - 1, At: at, Err: api.ErrArg}
		}
		check(t, "an instruction", p, want)
	}
	if t.Failed() {
		t.Fatalf("%+v, with %+v", x, a)
	}
}

// near are numbers at both ends, beside them, and far.
func near(low, high int) []int {
	l := []int{low, high, (low + high) / 2, -1, 0, 1, 2, 7, 8, 63, 64, math.MinInt, math.MaxInt, 1 << 20, 1 << 32, 1 << 40, 1<<40 + 1, 1<<32 + 1}
	for _, v := range slices.Clone(l) {
		l = append(l, v-1, v+1) // those of the lowest and the highest number of all are each other
	}
	return l
}

// P10.1: each field of each op at its lowest, its highest, beside them, and far from them; 0 and others where the op hasn't the field.
func TestFields(t *testing.T) {
	for op := range table {
		for _, a := range arounds() {
			x, there := a.lowest(op)
			a.checkIns(t, x, there)
			for place := range 3 {
				low, high := a.bounds(has(op, place), x.A)
				for _, v := range near(low, high) {
					a.checkIns(t, set(x, place, v), there && low <= v && v <= high)
				}
			}
		}
	}
}

// P10.1: all fields at their highest.
func TestHighestFields(t *testing.T) {
	for op := range table {
		for _, a := range arounds() {
			x, there := a.lowest(op)
			for place := range 3 {
				_, high := a.bounds(has(op, place), x.A)
				x = set(x, place, high)
			}
			a.checkIns(t, x, there)
			for place := range 3 {
				if v := [...]int{x.A, x.B, x.C}[place]; has(op, place) != "any" {
					a.checkIns(t, set(x, place, v+1), false)
				}
			}
		}
	}
}

// P10.1: one field that isn't as it should be beside two that are as they should is told, whichever it is; so are two, and three.
func TestSeveralFieldsThatMayNotBe(t *testing.T) {
	for op := range table {
		for _, a := range arounds()[:6] {
			for which := range 8 {
				x, _ := a.lowest(op)
				ok := true
				for place := range 3 {
					if which>>place&1 == 1 && has(op, place) != "any" {
						_, high := a.bounds(has(op, place), 0)
						x = set(x, place, high+1)
						ok = false
					}
				}
				a.checkIns(t, x, ok)
			}
		}
	}
}

// P10.1: each first with each count.
func TestSelect(t *testing.T) {
	for _, cases := range []int{0, 1, 2, 3, 31, 32} {
		a := around{funcs: 1, length: 1, cases: cases}
		for first := -2; first < cases+3; first++ {
			for count := -2; count < cases+3; count++ {
				ok := first >= 0 && count >= 1 && first+count <= cases
				a.checkIns(t, code.Ins{Op: code.Select, A: first, B: count}, ok)
			}
		}
	}
}

// P10.1: sums of first and count that are beyond 2^63 - 1, or come round to few.
func TestSelectOfGreatNumbers(t *testing.T) {
	great := []int{math.MaxInt, math.MaxInt - 1, math.MaxInt - 3, 1 << 62, 1 << 32, math.MinInt, math.MinInt + 1, math.MinInt + 3, -1 << 62, -1 << 32}
	for _, cases := range []int{0, 1, 4, 32} {
		a := around{funcs: 1, length: 1, cases: cases}
		for _, v := range great {
			for _, other := range append(row(0, 1), append(great, -3, -1, 1, 2, 3, 4, 31, 32, v-1, 1-v, -v)...) {
				if min(v, other) >= 0 && max(v, other) <= 32 {
					continue
				}
				a.checkIns(t, code.Ins{Op: code.Select, A: v, B: other}, false)
				a.checkIns(t, code.Ins{Op: code.Select, A: other, B: v}, false)
			}
		}
	}
}

// P10.1: a label is a place of the function in which it stands, not of another one.
func TestLabelsOfFunctions(t *testing.T) {
	for _, op := range []code.Op{code.Jump, code.If} {
		for length := 1; length < 6; length++ {
			for to := range 8 {
				p := of(nops(3), nops(length), nops(7))
				p.Funcs[1][length-1] = code.Ins{Op: op, A: to}
				if op == code.If {
					p.Funcs[1][length-1] = code.Ins{Op: op, B: to}
				}
				want := code.Fault{}
				if to >= length {
					want = code.Fault{Func: 1, At: length - 1, Err: api.ErrArg}
				}
				check(t, "a label", p, want)
			}
		}
	}
}
