package world_test

import (
	"fmt"
	"math/rand"
	"slices"
	"testing"

	"shunter/api"
	"shunter/code"
	"shunter/world"
)

// maker makes programs of a kind: which snippets they have, how often.
type maker struct {
	r    *rand.Rand
	p    code.Program
	kind []snippet
}

// reg is a register, mostly one of the first few, so that they meet.
func (m *maker) reg() int {
	if m.r.Intn(3) > 0 {
		return m.r.Intn(3)
	}
	return m.r.Intn(api.Regs)
}

// places of these are there only if the program has some.
func (m *maker) channel(op code.Op) []code.Ins {
	if len(m.p.Chans) == 0 {
		return nil
	}
	x := code.Ins{Op: op, A: m.r.Intn(len(m.p.Chans))}
	if op != code.Close {
		x.B = m.reg()
	}
	if op == code.Recv {
		x.C = m.reg()
	}
	return []code.Ins{x}
}

func (m *maker) send() []code.Ins  { return m.channel(code.Send) }
func (m *maker) recv() []code.Ins  { return m.channel(code.Recv) }
func (m *maker) close() []code.Ins { return m.channel(code.Close) }

func (m *maker) choose() []code.Ins {
	if len(m.p.Cases) == 0 {
		return nil
	}
	first := m.r.Intn(len(m.p.Cases))
	return []code.Ins{{Op: code.Select, A: first, B: 1 + m.r.Intn(min(len(m.p.Cases)-first, 6)), C: m.reg()}}
}

// lock: what is taken is mostly given again.
func (m *maker) lock() []code.Ins {
	if m.p.Locks == 0 {
		return nil
	}
	i := m.r.Intn(m.p.Locks)
	l := []code.Ins{{Op: code.Lock, A: i}}
	l = append(l, m.snippet()...)
	if m.r.Intn(12) > 0 {
		l = append(l, code.Ins{Op: code.Unlock, A: i})
	}
	return l
}

func (m *maker) sleep() []code.Ins {
	r := m.reg()
	return []code.Ins{{Op: code.Const, A: r, B: []int{-1, 0, 1, 1, 2, 3, 5, 1 << 40}[m.r.Intn(8)]}, {Op: code.Sleep, A: r}}
}

func (m *maker) pure() []code.Ins {
	op := []code.Op{code.Nop, code.Const, code.Move, code.Add, code.Sub, code.Mul, code.Less}[m.r.Intn(7)]
	switch op {
	case code.Nop:
		return []code.Ins{{}}
	case code.Const:
		return []code.Ins{{Op: op, A: m.reg(), B: m.r.Intn(100) - 20}}
	case code.Move:
		return []code.Ins{{Op: op, A: m.reg(), B: m.reg()}}
	}
	return []code.Ins{{Op: op, A: m.reg(), B: m.reg(), C: m.reg()}}
}

func (m *maker) call() []code.Ins {
	return []code.Ins{{Op: code.Call, A: m.r.Intn(cap(m.p.Funcs)), B: m.reg(), C: m.reg()}}
}

func (m *maker) spawn() []code.Ins {
	return []code.Ins{{Op: code.Spawn, A: m.r.Intn(cap(m.p.Funcs)), B: m.reg(), C: m.reg()}}
}

func (m *maker) yield() []code.Ins { return []code.Ins{{Op: code.Yield}} }
func (m *maker) emit() []code.Ins  { return []code.Ins{{Op: code.Emit, A: m.reg()}} }
func (m *maker) rand() []code.Ins {
	return []code.Ins{{Op: code.Rand, A: m.reg(), B: 1 + m.r.Intn(9)}}
}
func (m *maker) trap() []code.Ins { return []code.Ins{{Op: code.Trap, A: m.r.Intn(50)}} }

func (m *maker) snippet() []code.Ins {
	return m.kind[m.r.Intn(len(m.kind))](m)
}

// fun is a function, that begins with some instructions: it jumps back behind these, returns, or ends behind its last instruction.
func (m *maker) fun(l []code.Ins) []code.Ins {
	begun := len(l)
	for many := begun + 1 + m.r.Intn(12); len(l) < many; {
		if s := m.snippet(); len(l)+len(s) < 40 {
			l = append(l, s...)
		}
	}
	switch k := m.r.Intn(20); {
	case k < 12:
		return append(l, code.Ins{Op: code.Jump, A: begun + m.r.Intn(len(l)-begun)})
	case k < 14:
		return append(l, code.Ins{Op: code.If, A: m.reg(), B: begun + m.r.Intn(len(l)-begun)}, code.Ins{Op: code.Return, A: m.reg()})
	case k < 19:
		return append(l, code.Ins{Op: code.Return, A: m.reg()})
	}
	return l
}

// snippet makes some instructions that stand one behind the other.
type snippet = func(m *maker) []code.Ins

// kinds are what snippets programs have; those that stand there several times, so often.
func kinds() [][]snippet {
	many := func(n int, l ...snippet) []snippet { return slices.Repeat(l, n) }
	common := []snippet{(*maker).pure, (*maker).yield, (*maker).emit, (*maker).rand}
	return [][]snippet{
		slices.Concat(many(1, common...), many(4, (*maker).send, (*maker).recv)),
		slices.Concat(many(1, (*maker).pure, (*maker).emit), many(3, (*maker).send, (*maker).recv), many(5, (*maker).choose)),
		slices.Concat(many(1, (*maker).pure, (*maker).close), many(4, (*maker).recv), many(6, (*maker).choose)),
		slices.Concat(many(1, (*maker).rand, (*maker).close), many(4, (*maker).recv)),
		slices.Concat(many(1, (*maker).trap, (*maker).close), many(4, (*maker).send, (*maker).recv)),
		slices.Concat(many(1, common...), many(3, (*maker).sleep, (*maker).lock)),
		slices.Concat(many(2, common...), many(3, (*maker).call), many(1, (*maker).send, (*maker).recv)),
		slices.Concat(many(4, common...), many(3, (*maker).sleep, (*maker).lock, (*maker).choose, (*maker).send, (*maker).recv), many(1, (*maker).close, (*maker).trap, (*maker).call)),
	}
}

// start is what the first function begins with: some goroutines of the others.
func (m *maker) start() []code.Ins {
	var l []code.Ins
	for range m.r.Intn(9) {
		l = append(l, code.Ins{Op: code.Spawn, A: 1 + m.r.Intn(cap(m.p.Funcs)-1), B: m.reg(), C: m.reg()})
	}
	return l
}

// make is a program.
func (m *maker) make() code.Program {
	m.p = code.Program{Funcs: make([][]code.Ins, 0, 2+m.r.Intn(4)), Locks: m.r.Intn(3)}
	for range m.r.Intn([]int{4, 9}[m.r.Intn(2)]) {
		m.p.Chans = append(m.p.Chans, []int{0, 0, 1, 2, 16}[m.r.Intn(5)])
	}
	ways := [][]int{{0, 0, 0, 1, 1, 1, 2}, {0, 0, 0, 0, 0, 1}, {0}}[m.r.Intn(3)]
	for range m.r.Intn([]int{12, 33}[m.r.Intn(2)]) {
		switch way := ways[m.r.Intn(len(ways))]; {
		case way == code.WayElse:
			m.p.Cases = append(m.p.Cases, code.Case{Way: way, Chan: m.r.Intn(99), Reg: m.r.Intn(99)})
		case len(m.p.Chans) > 0:
			m.p.Cases = append(m.p.Cases, code.Case{Way: way, Chan: m.r.Intn(len(m.p.Chans)), Reg: m.reg()})
		}
	}
	m.p.Funcs = append(m.p.Funcs, m.fun(m.start()))
	for len(m.p.Funcs) < cap(m.p.Funcs) {
		m.p.Funcs = append(m.p.Funcs, m.fun(nil))
	}
	return m.p
}

// ride is a world, and a model beside it.
type ride struct {
	t    *testing.T
	r    *rand.Rand
	w    *world.World
	m    *model
	many int            // above so many goroutines there come few more
	seen map[string]int // what happened how often
}

// hasty: would an instruction end all, close a channel at which nobody may wait yet, or bring one more where there are many?
func (x *ride) hasty(op string) bool {
	return op == "op 10" || op == "op 15" || op == "op 22" || op == "op 11" && len(x.m.status) >= x.many
}

// who does an instruction: mostly one that can, and isn't hasty.
func (x *ride) who() int {
	if x.r.Intn(15) == 0 {
		return x.r.Intn(len(x.m.status)+2) - 1
	}
	var l []int
	for g, s := range x.m.status {
		if s == world.Ready {
			l = append(l, g)
		}
	}
	if len(l) == 0 {
		return 0
	}
	g := l[x.r.Intn(len(l))]
	for range 12 {
		if !x.hasty(x.op(g)) {
			break
		}
		g = l[x.r.Intn(len(l))]
	}
	return g
}

// op is what a goroutine does next.
func (x *ride) op(g int) string {
	if x.m.end != world.Runs || g < 0 || g >= len(x.m.status) || x.m.status[g] != world.Ready {
		return "nobody"
	}
	f := x.m.top(g)
	if f.At == len(x.m.p.Funcs[f.Func]) {
		return "end"
	}
	return fmt.Sprint("op ", int(x.m.p.Funcs[f.Func][f.At].Op))
}

// exec: false: the answers, or the draws, aren't the same.
func (x *ride) exec() bool {
	g := x.who()
	op := x.op(g)
	answer := x.r.Int()
	var asked, should [][2]int
	if x.r.Intn(10) == 0 {
		ahead := show(x.w)
		if got := panicsWith(x.w, g, func(kind, n int) int { panic(answer) }); got != nil {
			x.seen["panics"]++
			if got != answer || show(x.w) != ahead {
				return false
			}
		} else {
			x.m.exec(g, nil)
			return true
		}
	}
	e := x.w.Exec(g, func(kind, n int) int {
		asked = append(asked, [2]int{kind, n})
		return answer % n
	})
	want := x.m.exec(g, func(kind, n int) int {
		should = append(should, [2]int{kind, n})
		return answer % n
	})
	x.seen[op]++
	x.seen[fmt.Sprintf("%s, %d wake", op, min(len(want.Ready), 3))]++
	if _, why := x.m.end, x.m.why; why < 0 && op != "nobody" {
		x.seen[fmt.Sprintf("%s, trap %d", op, why)]++
	}
	return e.Keep == want.Keep && slices.Equal(e.Ready, want.Ready) && slices.Equal(asked, should)
}

// go on for some calls: at which one it strays; -1: nowhere.
func (x *ride) run(calls int) int {
	var views []view
	var texts []string
	for i := range calls {
		same := true
		if x.r.Intn(12) == 0 {
			same = slices.Equal(x.w.Tick(), x.m.tick())
		} else {
			same = x.exec()
		}
		v, want := look(x.w), x.m.view()
		if !same || !alike(v, want) {
			x.t.Logf("%+v\nnot\n%+v", v, want)
			return i
		}
		if x.r.Intn(20) == 0 {
			views, texts = append(views, v), append(texts, fmt.Sprintf("%+v", want))
		}
		if (x.m.end != world.Runs || x.w.Stuck()) && x.r.Intn(8) == 0 {
			break
		}
	}
	for i, v := range views {
		if fmt.Sprintf("%+v", v) != texts[i] {
			x.t.Log("what was answered changed")
			return calls
		}
	}
	return -1
}

// P16.1, P16.2, K3: many programs, held against the model behind each call.
func TestManyPrograms(t *testing.T) {
	seen := map[string]int{}
	for seed := range int64(1800) {
		r := rand.New(rand.NewSource(seed))
		l := kinds()
		m := &maker{r: r, kind: l[seed%int64(len(l))]}
		if r.Intn(5) == 0 {
			m.kind = append(m.kind, (*maker).spawn, (*maker).spawn)
		}
		p := m.make()
		if fault, ok := p.Check(); !ok {
			t.Fatalf("seed %d: %+v", seed, fault)
		}
		x := &ride{t: t, r: r, w: world.New(p), m: newModel(p), many: []int{4, 10, 200}[r.Intn(3)], seen: seen}
		if at := x.run(250); at >= 0 {
			t.Fatalf("seed %d: strays at call %d", seed, at)
		}
	}
	for op := range int(code.Trap) + 1 {
		if name := fmt.Sprint("op ", op); seen[name] < 50 {
			t.Errorf("%s: %d times", name, seen[name])
		}
	}
	for _, name := range []string{"op 13, 1 wake", "op 14, 1 wake", "op 15, 1 wake", "op 15, 2 wake", "op 15, 3 wake", "op 16, 1 wake", "op 19, 1 wake", "op 13, trap -1", "op 15, trap -1", "op 16, trap -1", "op 15, trap -2", "op 19, trap -3", "op 9, trap -4", "op 11, trap -5", "end, trap -7", "panics", "nobody"} {
		if seen[name] < 5 {
			t.Errorf("%s: %d times", name, seen[name])
		}
	}
}
