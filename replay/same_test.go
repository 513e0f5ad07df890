package replay_test

import (
	"math"
	"slices"
	"testing"

	"shunter/api"
	"shunter/record"
	"shunter/replay"
	"shunter/source"
	"shunter/taper"
)

// some is a result in which nothing is zero.
func some() taper.Result {
	return taper.Result{Status: taper.Trapped, Steps: 4, Trap: 9, Out: []int64{5, -6, 7}, Sums: []uint32{1, 2, 3, 4}, Err: api.ErrFull, Where: source.Unlike{At: 1, Kind: record.Rand, N: 3, Got: number(4)}}
}

// P22.1: results that differ in one thing alone: in each that counts, and in those that don't.
func TestSame(t *testing.T) {
	for name, x := range map[string]struct {
		change func(r *taper.Result)
		same   bool
	}{
		"nothing":               {func(r *taper.Result) {}, true},
		"the status":            {func(r *taper.Result) { r.Status = taper.Halted }, false},
		"no status":             {func(r *taper.Result) { r.Status = 0 }, false},
		"the steps":             {func(r *taper.Result) { r.Steps++ }, false},
		"no steps":              {func(r *taper.Result) { r.Steps = 0 }, false},
		"the trap":              {func(r *taper.Result) { r.Trap = -9 }, false},
		"no trap":               {func(r *taper.Result) { r.Trap = 0 }, false},
		"a number told":         {func(r *taper.Result) { r.Out[1] = 6 }, false},
		"the last number told":  {func(r *taper.Result) { r.Out[2] = math.MinInt64 }, false},
		"a number more":         {func(r *taper.Result) { r.Out = append(r.Out, 0) }, false},
		"a number less":         {func(r *taper.Result) { r.Out = r.Out[:2] }, false},
		"no numbers":            {func(r *taper.Result) { r.Out = nil }, false},
		"their order":           {func(r *taper.Result) { slices.Reverse(r.Out) }, false},
		"the first sum":         {func(r *taper.Result) { r.Sums[0] = math.MaxUint32 }, false},
		"the last sum":          {func(r *taper.Result) { r.Sums[3] = 0 }, false},
		"a sum more":            {func(r *taper.Result) { r.Sums = append(r.Sums, 0) }, false},
		"a sum less":            {func(r *taper.Result) { r.Sums = r.Sums[:3] }, false},
		"no sums":               {func(r *taper.Result) { r.Sums = nil }, false},
		"the error":             {func(r *taper.Result) { r.Err = api.ErrCut }, true},
		"no error":              {func(r *taper.Result) { r.Err = 0 }, true},
		"where it strayed":      {func(r *taper.Result) { r.Where.At++ }, true},
		"nowhere":               {func(r *taper.Result) { r.Where = source.Unlike{} }, true},
		"the error, and where":  {func(r *taper.Result) { r.Err, r.Where.N = api.OK, 9 }, true},
		"the status, and where": {func(r *taper.Result) { r.Status, r.Where.N = taper.Strayed, 9 }, false},
	} {
		a, b := some(), some()
		x.change(&b)
		if replay.Same(a, b) != x.same || replay.Same(b, a) != x.same || !replay.Same(b, b) {
			t.Errorf("%s: %t, %t, not %t", name, replay.Same(a, b), replay.Same(b, a), x.same)
		}
	}
	if a := (taper.Result{Out: []int64{}, Sums: []uint32{}}); !replay.Same(a, taper.Result{}) || !replay.Same(taper.Result{}, a) {
		t.Error("a nil list and an empty one are others")
	}
}

// P22.1: the first of the Sums that are others, as far as both go, whatever else is another.
func TestUnlike(t *testing.T) {
	for _, x := range []struct {
		a, b []uint32
		want int
	}{
		{nil, nil, -1},
		{nil, []uint32{1}, -1},
		{[]uint32{}, []uint32{0, 0}, -1},
		{[]uint32{1}, []uint32{1}, -1},
		{[]uint32{1}, []uint32{2}, 0},
		{[]uint32{0}, []uint32{math.MaxUint32}, 0},
		{[]uint32{1, 2, 3}, []uint32{1, 2, 3}, -1},
		{[]uint32{1, 2, 3}, []uint32{1, 2}, -1},
		{[]uint32{1, 2, 3}, []uint32{1, 2, 4}, 2},
		{[]uint32{1, 2, 3}, []uint32{1, 3, 3}, 1},
		{[]uint32{1, 2, 3}, []uint32{1, 3, 4}, 1},
		{[]uint32{1, 2, 3}, []uint32{2, 2, 3}, 0},
		{[]uint32{1, 2, 3}, []uint32{2}, 0},
		{[]uint32{1, 2, 3}, []uint32{1, 9}, 1},
		{[]uint32{5, 5, 5}, []uint32{5, 5, 5, 6}, -1},
	} {
		a, b := taper.Result{Sums: x.a}, some()
		b.Sums = x.b
		if got, back := replay.Unlike(a, b), replay.Unlike(b, a); got != x.want || back != x.want {
			t.Errorf("%v, %v: %d, %d, not %d", x.a, x.b, got, back, x.want)
		}
	}
	a, b := some(), some()
	if b.Status, b.Steps, b.Trap, b.Out = taper.Halted, 3, 0, nil; replay.Unlike(a, b) != -1 {
		t.Errorf("all but the Sums is another: %d", replay.Unlike(a, b))
	}
	for i := range a.Sums {
		b := some()
		if b.Sums[i]++; replay.Unlike(a, b) != i || replay.Unlike(b, a) != i {
			t.Errorf("sum %d is another: %d", i, replay.Unlike(a, b))
		}
	}
}
