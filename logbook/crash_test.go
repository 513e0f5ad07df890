package logbook_test

import (
	"slices"
	"strings"
	"testing"

	"shunter/api"
	"shunter/logbook"
	"shunter/record"
	"shunter/store"
)

// write adds decisions of the row from the from-th on to a book, up to the first error, with a Flush behind each flush-th of them (0: none); how many were added, that of the error among them.
func write(b *logbook.Book, from, count, flush int) int {
	for i := range count {
		if b.Add(decision(from+i)) != api.OK {
			return i + 1
		}
		if flush > 0 && i%flush == flush-1 && b.Flush() != api.OK {
			return i + 1
		}
	}
	return count
}

// noise are bytes that may come of those that weren't safe: none of them looks like a segment.
func noise() []string {
	return []string{"", "x", "S", "Sg\x00", "\x00\x00\x00\x00", "\xff", strings.Repeat("\x00", 60), strings.Repeat("Sg", 30)}
}

// checkSure holds a store behind a crash against how many decisions were added, and were sure, and answers those that are left.
func checkSure(t *testing.T, s *store.Store, sure, added int) int {
	t.Helper()
	l, end, _ := logbook.Read(s.Bytes())
	if len(l) < sure || len(l) > added || !slices.Equal(l, decisions(0, len(l))) {
		t.Fatalf("%d were added, %d sure; the log has %v", added, sure, l)
	}
	b, opened, err := logbook.Open(s, 2)
	if b == nil || err != api.OK || !slices.Equal(opened, l) || b.Sure() != len(l) || b.Waiting() != 0 {
		t.Fatalf("Open: %v, %v, %d, not %v", b, opened, err, l)
	}
	if s.Len() != end || s.Safe() != end {
		t.Fatalf("Open left %d bytes, %d of them safe, not %d", s.Len(), s.Safe(), end)
	}
	return len(l)
}

// P6.2
func TestWhereverThePowerIsCut(t *testing.T) {
	for _, size := range []int{1, 2, 3, 400} {
		for _, flush := range []int{0, 1, 4} {
			for power := range 20 {
				for keep := -1; keep < 20; keep++ {
					for _, with := range noise() {
						s := store.New(1 << 20)
						b := open(t, s, size, nil)
						s.Arm(power)
						added := write(b, 0, 9, flush)
						sure := b.Sure()
						s.Crash(keep, with)
						checkSure(t, s, sure, added)
					}
				}
			}
		}
	}
}

// P6.2: of what was appended but not safe no byte, some, or all stay, and one of them is another one.
func TestWhateverComesOfBytesThatWereNotSafe(t *testing.T) {
	last := framed(2, record.Bytes(decisions(6, 9)...))
	for keep := range len(last) + 2 {
		for spoilt := -1; spoilt < len(last); spoilt++ {
			s := store.New(1 << 20)
			b := open(t, s, 3, nil)
			s.Arm(5)
			added := write(b, 0, 12, 0)
			if b.Sure() != 6 || added != 9 || s.Len()-s.Safe() != len(last) {
				t.Fatalf("Sure %d, %d were added, %d bytes aren't safe", b.Sure(), added, s.Len()-s.Safe())
			}
			with := []byte(last)
			if spoilt >= 0 {
				with[spoilt] ^= 0x41
			}
			s.Crash(keep, string(with))
			want := 6
			if keep >= len(last) && spoilt < 0 {
				want = 9
			}
			if got := checkSure(t, s, 6, 9); got != want {
				t.Errorf("%d bytes stayed, byte %d was spoilt: %d decisions, not %d", keep, spoilt, got, want)
			}
		}
	}
}

// P6.2: a log that stops at what was torn goes on there, not behind it.
func TestALogGoesOnWhereItWasTorn(t *testing.T) {
	for keep := range 12 {
		s := store.New(1 << 20)
		b := open(t, s, 2, nil)
		s.Arm(3)
		write(b, 0, 9, 0)
		s.Crash(keep, "")
		n := checkSure(t, s, 2, 4)
		b = open(t, s, 2, decisions(0, n))
		add(t, b, n, 10)
		check(t, "behind a crash", b, s, 10, 0, logOf(10, 2))
	}
}

// P6.2
func TestABookOpenedAgainAndAgain(t *testing.T) {
	x := uint32(1)
	draw := func(below int) int {
		x = x*1664525 + 1013904223
		return int(x>>8) % below
	}
	for range 300 {
		s := store.New(400 + draw(4000))
		n := 0
		for range 12 {
			if draw(4) == 0 {
				s.Arm(draw(2))
			}
			b, l, err := logbook.Open(s, draw(6)-1)
			if err == api.ErrCut {
				s.Crash(draw(3), "")
				n = checkSure(t, s, n, n)
				continue
			}
			if err != api.OK || !slices.Equal(l, decisions(0, n)) || b.Sure() != n {
				t.Fatalf("Open: %d, %v, not %d decisions", err, l, n)
			}
			s.Arm(draw(12) - 1)
			added := n + write(b, n, draw(20), draw(4))
			sure := b.Sure()
			s.Crash(draw(30)-1, noise()[draw(len(noise()))])
			l, _, _ = logbook.Read(s.Bytes())
			if len(l) < sure || len(l) > added || !slices.Equal(l, decisions(0, len(l))) {
				t.Fatalf("%d were added, %d sure; the log has %v", added, sure, l)
			}
			n = len(l)
		}
	}
}

// P6.2: whoever asks for no Flush has all but those that wait.
func TestWhatWaitsIsLost(t *testing.T) {
	s := store.New(1 << 20)
	b := open(t, s, 4, nil)
	add(t, b, 0, 11)
	check(t, "Add", b, s, 8, 3, logOf(8, 4))
	s.Crash(0, "")
	if n := checkSure(t, s, 8, 11); n != 8 {
		t.Errorf("%d decisions, not 8", n)
	}
}
