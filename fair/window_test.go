package fair_test

import (
	"math"
	"math/rand"
	"slices"
	"testing"

	"shunter/fair"
	"shunter/record"
)

// picks are decisions of kind Pick, by the number of each.
func picks(l ...uint64) []record.Record {
	var all []record.Record
	for _, n := range l {
		all = append(all, record.Record{Kind: record.Pick, N: n})
	}
	return all
}

// among lays decisions of other kinds, and of none that there is, between picks: of numbers that are machines', too.
func among(l []record.Record) []record.Record {
	var all []record.Record
	for i, r := range l {
		for kind := -1; kind <= 6; kind++ {
			if kind != record.Pick && (kind+i)%3 > 0 {
				all = append(all, record.Record{Kind: kind, N: uint64((i + kind) & 3)})
			}
		}
		all = append(all, r)
	}
	return append(all, record.Record{Kind: record.Victim, N: 0}, record.Record{Kind: record.Case, N: 1}, record.Record{Kind: record.Rand, N: 2})
}

// P24.1: the edges of Window, by hand. Decisions of other kinds between the picks change nothing.
func TestWindow(t *testing.T) {
	for _, c := range []struct {
		name     string
		l        []uint64
		machines int
		want     int
	}{
		{"the document's example", []uint64{0, 1, 0}, 2, 2},
		{"nothing, of no machine", nil, 0, 0},
		{"nothing, of one machine", nil, 1, 0},
		{"nothing, of several", nil, 5, 0},
		{"nothing, of machines below 0", nil, -1, 0},
		{"picks, of no machine", []uint64{0, 1, 0}, 0, 0},
		{"picks, of machines below 0", []uint64{0, 1, 0}, -1, 0},
		{"picks, of machines far below 0", []uint64{0, math.MaxUint64, 1 << 63}, math.MinInt, 0},
		{"one pick, of one machine", []uint64{0}, 1, 1},
		{"the machine alone", []uint64{0, 0, 0, 0}, 1, 1},
		{"the clock alone", []uint64{1, 1}, 1, 0},
		{"the clock ahead", []uint64{1, 0}, 1, 2},
		{"the clock behind", []uint64{0, 1}, 1, 2},
		{"the clock twice ahead", []uint64{1, 1, 0}, 1, 3},
		{"the clock twice behind", []uint64{0, 1, 1}, 1, 3},
		{"the clock in the midst", []uint64{0, 1, 1, 1, 0}, 1, 4},
		{"the clock here and there", []uint64{1, 0, 1, 1, 0, 1}, 1, 3},
		{"each machine in turn", []uint64{0, 1, 2, 0, 1, 2}, 3, 3},
		{"each machine in turn, the clock too", []uint64{0, 1, 2, 3, 0, 1, 2, 3}, 3, 4},
		{"each machine once", []uint64{2, 0, 1}, 3, 3},
		{"there and back", []uint64{0, 1, 2, 2, 1, 0}, 3, 5},
		{"there, and back behind it", []uint64{0, 1, 2, 1, 0, 1, 2}, 3, 4},
		{"one is never picked: the first", []uint64{1, 2, 1, 2}, 3, 0},
		{"one is never picked: the midst one", []uint64{0, 2, 0, 2}, 3, 0},
		{"one is never picked: the last", []uint64{0, 1, 0, 1, 3}, 3, 0},
		{"fewer picks than machines", []uint64{0, 1}, 3, 0},
		{"far fewer picks than machines", []uint64{0, 1}, math.MaxInt, 0},
		{"one is picked first alone", []uint64{0, 1, 1, 1, 1}, 2, 5},
		{"one is picked last alone", []uint64{1, 1, 1, 1, 0}, 2, 5},
		{"one is picked in the midst alone", []uint64{1, 1, 0, 1, 1, 1}, 2, 4},
		{"one is picked just in the midst alone", []uint64{1, 1, 0, 1, 1}, 2, 3},
		{"the stretch ahead of the first is the longest", []uint64{1, 1, 1, 0, 1, 0, 1, 0}, 2, 4},
		{"the stretch behind the last is the longest", []uint64{0, 1, 0, 1, 0, 1, 1, 1}, 2, 4},
		{"the stretch between is the longest", []uint64{0, 1, 0, 1, 1, 1, 0, 1, 0}, 2, 4},
		{"of two machines, each at an end", []uint64{0, 1}, 2, 2},
		{"numbers that are no machine's", []uint64{0, 2, 7, 1, 2, 0}, 2, 5},
		{"numbers beyond every int", []uint64{0, 1 << 63, math.MaxUint64, 1}, 2, 4},
		{"a number beyond every int between", []uint64{0, math.MaxUint64, 0, math.MaxUint64 - 1, math.MaxUint64, 0}, 1, 3},
		{"numbers that are a machine's but for a bit", []uint64{1 << 32, 1 << 62, 1 << 63, 1<<63 | 1}, 2, 0},
		{"numbers beyond every decision", []uint64{0, record.MostN, record.MostN + 1}, 1, 3},
	} {
		for _, l := range [][]record.Record{picks(c.l...), among(picks(c.l...))} {
			if got := fair.Window(l, c.machines); got != c.want {
				t.Errorf("%s: Window of %v, of %d: %d, not %d", c.name, l, c.machines, got, c.want)
			}
		}
	}
}

// P24.1: none of kind Pick, however many there are, and whatever their numbers.
func TestWindowOfNoPicks(t *testing.T) {
	for kind := -3; kind <= 9; kind++ {
		if kind == record.Pick {
			continue
		}
		for machines := -1; machines < 4; machines++ {
			l := []record.Record{{Kind: kind}, {Kind: kind, N: 1}, {Kind: kind, N: 2}}
			if got := fair.Window(l, machines); got != 0 {
				t.Errorf("of kind %d, of %d: %d", kind, machines, got)
			}
			// A pick among them is the only one that counts.
			l = slices.Insert(l, 1, picks(0)...)
			want := 0
			if machines == 1 {
				want = 1
			}
			if got := fair.Window(l, machines); got != want {
				t.Errorf("a pick among those of kind %d, of %d: %d, not %d", kind, machines, got, want)
			}
		}
	}
}

// P24.1: a great row: the window is as long as the longest stretch, and 1; of many machines.
func TestWindowOfMany(t *testing.T) {
	var l []record.Record
	for range 1000 {
		for m := range uint64(64) {
			l = append(l, picks(m, 64)...)
		}
	}
	// The clock's number is a machine's, too, where there is one more.
	for machines, want := range map[int]int{64: 128, 65: 128, 66: 0} {
		if got := fair.Window(l, machines); got != want {
			t.Errorf("each in turn, the clock between, of %d: %d", machines, got)
		}
	}
	alone := slices.Insert(slices.Clone(l), 5000, picks(slices.Repeat([]uint64{7}, 9000)...)...)
	if got := fair.Window(alone, 64); got != 9128 {
		t.Errorf("one alone in the midst: %d", got)
	}
	late := slices.Delete(slices.Clone(l), 126, 127)
	if got := fair.Window(late, 64); got != 254 {
		t.Errorf("one that is picked late: %d", got)
	}
	gone := append(l, picks(slices.Repeat([]uint64{64}, 500)...)...)
	if got := fair.Window(gone, 64); got != 628 {
		t.Errorf("all are picked no more: %d", got)
	}
}

// window by the chapter's words: each number from 1 on is tried, at each place where there are so many picks.
func window(l []record.Record, machines int) int {
	var row []uint64
	for _, r := range l {
		if r.Kind == record.Pick {
			row = append(row, r.N)
		}
	}
	has := func(row []uint64) bool {
		for m := range machines {
			if !slices.Contains(row, uint64(m)) {
				return false
			}
		}
		return true
	}
	if machines < 1 || !has(row) {
		return 0
	}
	for w := 1; ; w++ {
		all := true
		for at := 0; at+w <= len(row); at++ {
			all = all && has(row[at:at+w])
		}
		if all {
			return w
		}
	}
}

// rows shows all rows of some numbers, up to a length.
func rows(row []uint64, longest int, numbers []uint64, see func(row []uint64)) {
	see(row)
	if len(row) == longest {
		return
	}
	for _, n := range numbers {
		rows(append(slices.Clone(row), n), longest, numbers, see)
	}
}

// P24.1: all short rows of picks, of any few machines, by the chapter's words.
func TestWindowOfAllShortRows(t *testing.T) {
	seen := map[int]int{}
	holds := func(row []uint64) {
		for machines := range 5 {
			l := picks(row...)
			got, want := fair.Window(l, machines), window(l, machines)
			if got != want {
				t.Fatalf("%v, of %d: %d, not %d", row, machines, got, want)
			}
			seen[want]++
		}
	}
	rows(nil, 7, []uint64{0, 1, 2}, holds)
	rows(nil, 5, []uint64{0, 1, 2, 3, math.MaxUint64}, holds)
	rows(nil, 10, []uint64{0, 1}, holds)
	for w := range 11 {
		if seen[w] == 0 {
			t.Errorf("no window of %d", w)
		}
	}
}

// P24.1: drawn decisions of all kinds, by the chapter's words.
func TestWindowOfDrawnDecisions(t *testing.T) {
	some := 0
	for seed := range int64(3000) {
		r := rand.New(rand.NewSource(seed))
		machines := r.Intn(9) - 1
		l := make([]record.Record, r.Intn(60))
		for i := range l {
			l[i] = record.Record{Kind: 1 + r.Intn(1+r.Intn(4)), N: uint64(r.Intn(max(machines, 0) + 1 + r.Intn(2)))}
			if r.Intn(20) == 0 {
				l[i].N = r.Uint64()
			}
		}
		got, want := fair.Window(l, machines), window(l, machines)
		if got != want {
			t.Fatalf("seed %d: %v, of %d: %d, not %d", seed, l, machines, got, want)
		}
		if want > machines {
			some++
		}
	}
	if some < 800 {
		t.Errorf("%d windows alone are above the machines", some)
	}
}

// K1, K3: nil and nothing are the same; what is handed in stays as it is, the same is answered again.
func TestWindowOfNothingAndAgain(t *testing.T) {
	for machines := -1; machines < 3; machines++ {
		if a, b := fair.Window(nil, machines), fair.Window([]record.Record{}, machines); a != 0 || b != 0 {
			t.Errorf("of %d: %d, %d", machines, a, b)
		}
	}
	l := among(picks(2, 0, 1, 3, 0, 2, 1))
	kept := slices.Clone(l)
	for range 50 {
		if got := fair.Window(l, 3); got != 5 {
			t.Fatalf("%d", got)
		}
	}
	if !slices.Equal(l, kept) {
		t.Errorf("it became %v", l)
	}
}
