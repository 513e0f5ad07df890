package sample_test

import (
	"math/rand"
	"testing"

	"shunter/api"
	"shunter/code"
	"shunter/record"
	"shunter/sample"
)

// What comes by chance may be, and is of each sort that the tests of others lean on.
func TestSamples(t *testing.T) {
	ops, ways, kinds := map[code.Op]int{}, map[int]int{}, map[int]int{}
	for seed := range int64(1000) {
		r := rand.New(rand.NewSource(seed))
		p, c := sample.Program(r), sample.Config(r)
		if fault, ok := p.Check(); !ok || c.Check() != api.OK {
			t.Fatalf("seed %d: %+v, %+v", seed, fault, c)
		}
		for _, f := range p.Funcs {
			for _, x := range f {
				ops[x.Op]++
			}
		}
		for _, x := range p.Cases {
			ways[x.Way]++
		}
		for _, d := range sample.Decisions(r) {
			if d.Check() != api.OK {
				t.Fatalf("seed %d: %+v", seed, d)
			}
			kinds[d.Kind]++
		}
		if l := sample.Numbers(r, c, int(seed)); len(l) != int(seed) {
			t.Fatalf("seed %d: %d numbers", seed, len(l))
		}
	}
	for _, op := range []code.Op{code.Const, code.Add, code.Jump, code.Call, code.Return, code.Spawn, code.Yield, code.Send, code.Recv, code.Close, code.Select, code.Sleep, code.Lock, code.Unlock, code.Emit, code.Rand, code.Trap} {
		if ops[op] < 30 {
			t.Errorf("op %d: %d times", op, ops[op])
		}
	}
	for way := range 3 {
		if ways[way] < 50 {
			t.Errorf("way %d: %d times", way, ways[way])
		}
	}
	for kind := record.Pick; kind <= record.Rand; kind++ {
		if kinds[kind] < 50 {
			t.Errorf("kind %d: %d times", kind, kinds[kind])
		}
	}
}
