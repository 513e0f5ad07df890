package world

import (
	"shunter/code"
	"shunter/frame"
	"shunter/picks"
	"shunter/record"
)

// trap is what an instruction panics with that ends all: its number.
type trap int

// doing is an instruction that is being done.
type doing struct {
	w     *World
	g     int // by whom
	x     code.Ins
	there bool  // is there an instruction?
	drawn int   // of a Rand its number, of a Select the case that goes
	goes  bool  // of a Select: a case does
	ready []int // who can go on by it
}

// Exec: a goroutine that can go on does its next instruction, by draws of numbers below some.
func (w *World) Exec(g int, draw func(kind, n int) int) Effect {
	if !w.lets(g) {
		return Effect{}
	}
	d := &doing{w: w, g: g}
	d.x, d.there = w.next(g)
	d.ask(draw)
	// Once more: a draw may have called this world itself.
	if !w.lets(g) {
		return Effect{}
	}
	d.do()
	return Effect{Keep: d.keeps(), Ready: d.ready}
}

// lets: can a goroutine do an instruction?
func (w *World) lets(g int) bool {
	return w.end == Runs && w.Status(g) == Ready
}

// next: the instruction at which a goroutine is; false: there is none.
func (w *World) next(g int) (code.Ins, bool) {
	f := w.all[g].Stack.Top()
	if fun := w.funcs[f.Func]; has(fun, f.At) {
		return fun[f.At], true
	}
	return code.Ins{}, false
}

// ask: what the instruction needs drawn. Ahead of do: if draw panics, nothing has changed.
func (d *doing) ask(draw func(kind, n int) int) {
	switch d.x.Op {
	case code.Rand:
		d.drawn = below(d.x.B, draw(record.Rand, d.x.B))
	case code.Select:
		places := picks.Enabled(d.w.casesOf(d.x), d.w.chans)
		if n := len(places); n > 0 {
			d.drawn, d.goes = places[below(n, draw(record.Case, n))], true
		}
	}
}

// below: a draw; of one that isn't from 0 to below n the nearest that is.
func below(n, drawn int) int {
	return min(max(drawn, 0), n-1)
}

// do: the instruction is done; if it traps, all ends.
func (d *doing) do() {
	defer func() {
		switch x := recover().(type) {
		case nil:
		case trap:
			d.w.end, d.w.why = Trapped, int(x)
		default:
			panic(x)
		}
	}()
	if !d.there {
		panic(trap(TrapEnd))
	}
	if d.top().Pure(d.x) {
		return
	}
	d.top().At++
	others()[d.x.Op](d)
}

// others is what the ops do that registers alone don't decide.
func others() [code.Trap + 1]func(*doing) {
	return [...]func(*doing){
		code.Call:   (*doing).call,
		code.Return: (*doing).giveBack,
		code.Spawn:  (*doing).spawn,
		code.Yield:  (*doing).yield,
		code.Send:   (*doing).sendOrRecv,
		code.Recv:   (*doing).sendOrRecv,
		code.Close:  (*doing).close,
		code.Select: (*doing).choose,
		code.Sleep:  (*doing).sleep,
		code.Lock:   (*doing).lock,
		code.Unlock: (*doing).unlock,
		code.Emit:   (*doing).emit,
		code.Rand:   (*doing).rand,
		code.Trap:   (*doing).endAll,
	}
}

// keeps: can the goroutine go on at once?
func (d *doing) keeps() bool {
	aside := d.x.Op == code.Yield || d.x.Op == code.Sleep
	return d.w.end == Runs && d.me().Status == Ready && !aside
}

// me is the goroutine that does it, in the world itself.
func (d *doing) me() *G {
	return &d.w.all[d.g]
}

// top is the frame that runs, in the world itself.
func (d *doing) top() *frame.Frame {
	return d.me().Stack.Top()
}

// wake: one can go on by the instruction.
func (d *doing) wake(g int) {
	d.w.all[g].Status = Ready
	d.ready = append(d.ready, g)
}
