package asm_test

import (
	"math"
	"math/rand"
	"reflect"
	"strconv"
	"strings"
	"testing"

	"shunter/api"
	"shunter/asm"
	"shunter/code"
)

// written holds a program against its canonical text, there and back.
func written(t *testing.T, p code.Program, want string) {
	t.Helper()
	kept := plain(p)
	if got := asm.Text(p); got != want {
		t.Errorf("%+v: %q, not %q", p, short(got), short(want))
	}
	if !reflect.DeepEqual(plain(p), kept) {
		t.Errorf("%+v has changed", p)
	}
	if len(want) <= asm.MaxText {
		parsed(t, want, p)
	}
}

// every is a program with all parts, to which any instruction's fields may be fitted.
func every(x code.Ins) code.Program {
	return code.Program{
		Funcs: [][]code.Ins{{x, {}, {}, {}, {}, {}, {}, {}}, {{}}, {{}}, {{}}},
		Chans: []int{0, 1, 2, 16},
		Locks: 4,
		Cases: []code.Case{{Way: code.WayElse}, {Way: code.WayRecv, Chan: 3, Reg: 7}, {Way: code.WaySend, Chan: 1, Reg: 0}, {Way: code.WayElse}, {Way: code.WayElse}, {Way: code.WayElse}, {Way: code.WayElse}},
	}
}

// P11.2: each op's word, there and back, with fields that are other than each other.
func TestEachOp(t *testing.T) {
	for op, word := range words {
		x := code.Ins{Op: code.Op(op)}
		line := word
		for i, f := range []*int{&x.A, &x.B, &x.C}[:fields[op]] {
			*f = i + 1
			line += " " + strconv.Itoa(i+1)
		}
		written(t, every(x), "chan 0\nchan 1\nchan 2\nchan 16\nlocks 4\nelse\nrecv 3 7\nsend 1 0\nelse\nelse\nelse\nelse\nfunc\n"+line+"\n"+strings.Repeat("nop\n", 7)+strings.Repeat("func\nnop\n", 3))
	}
}

// P11.2: programs with and without channels, locks, cases.
func TestParts(t *testing.T) {
	for part := range 8 {
		p, want := of(code.Ins{Op: code.Yield}), ""
		if part&1 != 0 {
			p.Chans, want = []int{5, 0}, want+"chan 5\nchan 0\n"
		}
		if part&2 != 0 {
			p.Locks, want = 8, want+"locks 8\n"
		}
		if part&4 != 0 {
			p.Cases, want = []code.Case{{Way: code.WayElse}, {Way: code.WayElse}}, want+"else\nelse\n"
		}
		written(t, p, want+"func\nyield\n")
	}
	p := of(code.Ins{})
	p.Chans, p.Cases = []int{}, []code.Case{}
	written(t, p, "func\nnop\n")
}

// P11.2
func TestTextNumbers(t *testing.T) {
	for v, word := range map[int]string{0: "0", -1: "-1", 10: "10", -10: "-10", math.MaxInt64: "9223372036854775807", math.MinInt64: "-9223372036854775808", 1 << 40: "1099511627776"} {
		written(t, of(code.Ins{Op: code.Const, A: 7, B: v}), "func\nconst 7 "+word+"\n")
	}
	written(t, of(code.Ins{Op: code.Rand, B: 1<<40 - 1}, code.Ins{Op: code.Trap, A: 1<<20 - 1}), "func\nrand 0 1099511627775\ntrap 1048575\n")
}

// P11.1, P11.2: what isn't canonical comes to what is: empty lines, no byte 10 at the end, another order, "locks 0".
func TestCanonical(t *testing.T) {
	for text, want := range map[string]string{
		"func\nnop":                        "func\nnop\n",
		"\n\nfunc\n\n\nnop\n\n":            "func\nnop\n",
		"locks 0\nfunc\nnop":               "func\nnop\n",
		"else\nlocks 2\nchan 3\nfunc\nnop": "chan 3\nlocks 2\nelse\nfunc\nnop\n",
		"send 0 1\nchan 3\nelse\nchan 1\nrecv 1 1\nfunc\nselect 0 3 0": "chan 3\nchan 1\nsend 0 1\nelse\nrecv 1 1\nfunc\nselect 0 3 0\n",
	} {
		p, at, err := asm.Parse(text)
		if at != -1 || err != api.OK {
			t.Errorf("%q: %d, %d", text, at, err)
		}
		written(t, p, want)
	}
}

// P11.2: the longest programs; a text that is longer than MaxText is told all the same.
func TestLongest(t *testing.T) {
	p := code.Program{}
	want := ""
	for range 16 {
		var f []code.Ins
		want += "func\n"
		for range 64 {
			f = append(f, code.Ins{Op: code.Spawn, A: 15, B: 7, C: 7})
			want += "spawn 15 7 7\n"
		}
		p.Funcs = append(p.Funcs, f)
	}
	written(t, p, want)
	for i := range p.Funcs {
		for at := range p.Funcs[i] {
			p.Funcs[i][at] = code.Ins{Op: code.Const, A: 7, B: math.MinInt64}
		}
	}
	want = strings.ReplaceAll(want, "spawn 15 7 7", "const 7 -9223372036854775808")
	written(t, p, want)
	refused(t, want, 0, api.ErrBig)
}

// anyProgram is one that may be.
func anyProgram(r *rand.Rand) code.Program {
	p := code.Program{Locks: r.Intn(9)}
	for range r.Intn(9) {
		p.Chans = append(p.Chans, r.Intn(17))
	}
	for range r.Intn(9) {
		c := code.Case{Way: r.Intn(3)}
		if len(p.Chans) == 0 {
			c.Way = code.WayElse
		}
		if c.Way != code.WayElse {
			c.Chan, c.Reg = r.Intn(len(p.Chans)), r.Intn(8)
		}
		p.Cases = append(p.Cases, c)
	}
	p.Funcs = make([][]code.Ins, 1+r.Intn(5))
	for i := range p.Funcs {
		f := make([]code.Ins, 1+r.Intn(12))
		for at := range f {
			f[at] = anyIns(r, p, len(f))
		}
		p.Funcs[i] = f
	}
	return p
}

// anyIns is one that may be in a program, in a function of so many.
func anyIns(r *rand.Rand, p code.Program, length int) code.Ins {
	for {
		x := code.Ins{Op: code.Op(r.Intn(23))}
		for i, f := range []*int{&x.A, &x.B, &x.C}[:fields[x.Op]] {
			*f = r.Intn(9)
			if i == 1 && r.Intn(3) == 0 {
				*f = int(r.Uint64() >> r.Intn(64))
			}
		}
		// Alone, it is at a label, and function, that there is, if it may be.
		q := p
		q.Funcs = make([][]code.Ins, len(p.Funcs))
		for i := range q.Funcs {
			q.Funcs[i] = make([]code.Ins, length)
		}
		q.Funcs[0][0] = x
		if _, ok := q.Check(); ok {
			return x
		}
	}
}

// P11.2
func TestThereAndBack(t *testing.T) {
	r := rand.New(rand.NewSource(1))
	seen := map[code.Op]bool{}
	for range 4000 {
		p := anyProgram(r)
		text := asm.Text(p)
		written(t, p, text)
		q, at, err := asm.Parse(text)
		if at != -1 || err != api.OK || asm.Text(q) != text {
			t.Fatalf("%q: %d, %d", text, at, err)
		}
		for _, f := range p.Funcs {
			for _, x := range f {
				seen[x.Op] = true
			}
		}
	}
	if len(seen) != len(words) {
		t.Errorf("%d ops", len(seen))
	}
}
