package salvage_test

import (
	"math"
	"slices"
	"testing"

	"shunter/api"
	"shunter/record"
	"shunter/salvage"
	"shunter/source"
	"shunter/taper"
)

// P23.1: how many are the same from the first one on, and whether none are others, whichever is the longer one.
func TestSure(t *testing.T) {
	for _, x := range []struct {
		a, b []uint32
		many int
		none bool
	}{
		{nil, nil, 0, true},
		{nil, []uint32{}, 0, true},
		{nil, []uint32{1}, 0, true},
		{[]uint32{}, []uint32{0, 0}, 0, true},
		{[]uint32{1}, []uint32{1}, 1, true},
		{[]uint32{0}, []uint32{0}, 1, true},
		{[]uint32{1}, []uint32{2}, 0, false},
		{[]uint32{0}, []uint32{math.MaxUint32}, 0, false},
		{[]uint32{1, 2, 3}, []uint32{1, 2, 3}, 3, true},
		{[]uint32{1, 2, 3}, []uint32{1, 2}, 2, true},
		{[]uint32{1, 2, 3}, []uint32{1}, 1, true},
		{[]uint32{1, 2, 3}, []uint32{2}, 0, false},
		{[]uint32{1, 2, 3}, []uint32{1, 2, 4}, 2, false},
		{[]uint32{1, 2, 3}, []uint32{1, 3, 3}, 1, false},
		{[]uint32{1, 2, 3}, []uint32{1, 3, 4}, 1, false},
		{[]uint32{1, 2, 3}, []uint32{2, 2, 3}, 0, false},
		{[]uint32{1, 2, 3}, []uint32{3, 2, 1}, 0, false},
		{[]uint32{1, 2, 3}, []uint32{1, 9}, 1, false},
		{[]uint32{5, 5, 5}, []uint32{5, 5, 5, 6}, 3, true},
		{[]uint32{5, 5, 5}, []uint32{5, 5, 6, 5, 5}, 2, false},
		{[]uint32{0, 0, 0}, []uint32{0, 0, 0, 0}, 3, true},
	} {
		a, b := taper.Result{Sums: x.a}, taper.Result{Sums: x.b}
		many, none := salvage.Sure(a, b)
		again, back := salvage.Sure(b, a)
		if many != x.many || none != x.none || again != x.many || back != x.none {
			t.Errorf("%v, %v: %d, %t, and %d, %t, not %d, %t", x.a, x.b, many, none, again, back, x.many, x.none)
		}
	}
}

// P23.1: nothing but the Sums counts; K3: they stay.
func TestSureOfSumsAlone(t *testing.T) {
	sums := []uint32{7, 8, 9, 10}
	full := taper.Result{Status: taper.Strayed, Steps: 2, Trap: 9, Out: []int64{5}, Sums: slices.Clone(sums), Err: api.ErrFull, Where: source.Unlike{At: 1, Kind: record.Rand, N: 3, Got: number(4)}}
	if many, none := salvage.Sure(full, taper.Result{Sums: sums[:3]}); many != 3 || !none {
		t.Errorf("%d, %t", many, none)
	}
	if many, none := salvage.Sure(full, taper.Result{Steps: 9}); many != 0 || !none {
		t.Errorf("without Sums: %d, %t", many, none)
	}
	for at := range sums {
		other := full
		other.Sums = slices.Clone(sums)
		other.Sums[at]++
		if many, none := salvage.Sure(full, other); many != at || none {
			t.Errorf("sum %d is another: %d, %t", at, many, none)
		}
	}
	if !slices.Equal(full.Sums, sums) {
		t.Errorf("the Sums are %v", full.Sums)
	}
}
