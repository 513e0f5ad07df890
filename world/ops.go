package world

import (
	"shunter/api"
	"shunter/locks"
)

func (d *doing) call() {
	s, ok := d.me().Stack.Call(d.x.A, d.top().R[d.x.B], d.x.C)
	if !ok {
		panic(trap(TrapDeep))
	}
	d.me().Stack = s
}

func (d *doing) giveBack() {
	s, ok := d.me().Stack.Return(d.top().R[d.x.A])
	if ok {
		d.me().Stack = s
		return
	}
	d.me().Status = Done
	if d.g == 0 {
		d.w.end = Halted
	}
}

func (d *doing) spawn() {
	g := len(d.w.all)
	if g >= api.MaxG {
		panic(trap(TrapMany))
	}
	d.w.all = append(d.w.all, begin(d.x.A, d.top().R[d.x.B]))
	d.top().R[d.x.C] = int64(g)
	d.wake(g)
}

func (d *doing) yield() {}

func (d *doing) sleep() {
	ticks := min(d.top().R[d.x.A], api.MaxSleep)
	if ticks <= 0 {
		return
	}
	d.me().Status = Asleep
	d.w.sleep.Push(d.w.clock+uint64(ticks), d.g)
}

func (d *doing) lock() {
	if !d.w.locks[d.x.A].Take(d.g) {
		d.me().Status = Waiting
	}
}

func (d *doing) unlock() {
	next, err := d.w.locks[d.x.A].Give(d.g)
	if err != api.OK {
		panic(trap(TrapUnlock))
	}
	if next != locks.None {
		d.wake(next)
	}
}

func (d *doing) emit() {
	if len(d.w.out) >= api.MaxOut {
		panic(trap(TrapOut))
	}
	d.w.out = append(d.w.out, d.top().R[d.x.A])
}

func (d *doing) rand() {
	d.top().R[d.x.A] = int64(d.drawn)
}

func (d *doing) endAll() {
	panic(trap(d.x.A))
}
