package tool

import (
	"testing"

	"shunter/api"
	"shunter/record"
	"shunter/source"
	"shunter/taper"
)

// P25.1: the lines of results of each status, also such as no job comes to (a log has room for all that there can be, so it isn't Broken).
func TestLines(t *testing.T) {
	where := source.Unlike{At: 12, Kind: 4, N: 1 << 40, Got: record.Record{Kind: 2, N: 1 << 63}}
	for _, x := range []struct {
		is   taper.Result
		want string
	}{
		{taper.Result{Status: taper.Halted, Steps: 3}, "halted\nsteps 3\n"},
		{taper.Result{Status: taper.Trapped, Steps: 10}, "trapped\nsteps 10\ntrap 0\n"},
		{taper.Result{Status: taper.Trapped, Trap: -7}, "trapped\nsteps 0\ntrap -7\n"},
		{taper.Result{Status: taper.Deadlock, Steps: 4, Out: []int64{0}}, "deadlock\nsteps 4\nout 0\n"},
		{taper.Result{Status: taper.Exhausted, Sums: []uint32{0}}, "exhausted\nsteps 0\nsum 00000000\n"},
		{taper.Result{Status: taper.Limit, Steps: 1 << 20, Sums: []uint32{7, 1<<32 - 1}}, "limit\nsteps 1048576\nsum ffffffff\n"},
		{taper.Result{Status: taper.Broken, Steps: 2, Err: api.ErrFull}, "broken\nsteps 2\n"},
		{taper.Result{Status: taper.Broken, Steps: 2, Err: api.ErrCut, Out: []int64{-1, 1}, Sums: []uint32{1, 0xabc}}, "broken\nsteps 2\nout -1 1\nsum 00000abc\n"},
		{taper.Result{Status: taper.Malformed, Err: api.ErrForm}, "malformed\nsteps 0\n"},
		{taper.Result{Status: taper.Strayed, Where: source.Unlike{Kind: 1, N: 1, Got: record.Record{Kind: 1, N: 1}}}, "strayed\nsteps 0\nat 0 kind 1 below 1 stands 1 1\n"},
		{taper.Result{Status: taper.Strayed, Steps: 5, Where: where, Out: []int64{3, 2}, Sums: []uint32{2, 16}}, "strayed\nsteps 5\nat 12 kind 4 below 1099511627776 stands 2 9223372036854775808\nout 3 2\nsum 00000010\n"},
	} {
		if got := lines(x.is); got != x.want {
			t.Errorf("%+v: %q, not %q", x.is, got, x.want)
		}
	}
}
