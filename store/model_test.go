package store_test

import (
	"strings"
	"testing"

	"shunter/api"
	"shunter/store"
)

// model is a store by the chapter's words: a text, as far as it is safe, and one behind that isn't.
type model struct {
	safe, loose string
	room        int
	power       string // a letter for each call that is let through, up to the "X"; "": it isn't to be cut
	dead        bool
}

func (m *model) cut() bool {
	m.dead = m.dead || m.power == "X"
	m.power = strings.TrimPrefix(m.power, ".")
	return m.dead
}

func (m *model) arm(n int) {
	m.power = ""
	if n >= 0 {
		m.power = strings.Repeat(".", n) + "X"
	}
}

func (m *model) append(text string) api.Errno {
	switch {
	case m.cut():
		return api.ErrCut
	case len(m.safe+m.loose+text) > m.room:
		return api.ErrFull
	}
	m.loose += text
	return api.OK
}

func (m *model) sync() api.Errno {
	if m.cut() {
		return api.ErrCut
	}
	m.safe, m.loose = m.safe+m.loose, ""
	return api.OK
}

func (m *model) cutAt(n int) api.Errno {
	switch {
	case n < 0 || n > len(m.safe+m.loose):
		return api.ErrArg
	case m.cut():
		return api.ErrCut
	case n <= len(m.safe):
		m.safe, m.loose = m.safe[:n], ""
	default:
		m.loose = m.loose[:n-len(m.safe)]
	}
	return api.OK
}

func (m *model) crash(keep int, with string) {
	left := ""
	for i := 0; i < keep && i < len(m.loose); i++ {
		if i < len(with) {
			left += with[i : i+1]
		} else {
			left += m.loose[i : i+1]
		}
	}
	m.safe, m.loose, m.power, m.dead = m.safe+left, "", "", false
}

// both are a call of a store and of a model; false: their errors aren't the same, or a Crash took what was safe.
type both func(s *store.Store, m *model) bool

func appends(text string) both {
	return func(s *store.Store, m *model) bool { return s.Append(text) == m.append(text) }
}

func cuts(n int) both {
	return func(s *store.Store, m *model) bool { return s.Cut(n) == m.cutAt(n) }
}

func cutsAtEnd(s *store.Store, m *model) bool {
	n := len(m.safe + m.loose)
	return s.Cut(n) == m.cutAt(n)
}

func syncs(s *store.Store, m *model) bool {
	return s.Sync() == m.sync()
}

func arms(n int) both {
	return func(s *store.Store, m *model) bool {
		s.Arm(n)
		m.arm(n)
		return true
	}
}

func crashes(keep int, with string) both {
	return func(s *store.Store, m *model) bool {
		was := s.Bytes()[:s.Safe()]
		s.Crash(keep, with)
		m.crash(keep, with)
		return strings.HasPrefix(s.Bytes(), was)
	}
}

func calls() []both {
	return []both{
		appends("ab"), appends(""), appends("cdefg"), syncs,
		cuts(-1), cuts(1), cuts(3), cutsAtEnd,
		arms(-1), arms(0), arms(1),
		crashes(-1, "x"), crashes(1, ""), crashes(1, "xyz"), crashes(3, "yz"),
	}
}

func (m *model) agrees(s *store.Store) bool {
	all := m.safe + m.loose
	return s.Bytes() == all && s.Len() == len(all) && s.Safe() == len(m.safe) && s.Dead() == m.dead
}

// runCalls: at which call a store and its model aren't the same any more; -1: nowhere.
func runCalls(l []both, room int) int {
	s, m := store.New(room), &model{room: room}
	for i, c := range l {
		if !c(s, m) || !m.agrees(s) {
			return i
		}
	}
	return -1
}

// P4.1, P4.2
func TestAllShortRowsOfCalls(t *testing.T) {
	l := calls()
	for i := range len(l) * len(l) * len(l) * len(l) {
		row := []both{appends("pqr"), syncs, appends("st")}
		for n := i; len(row) < 7; n /= len(l) {
			row = append(row, l[n%len(l)])
		}
		if at := runCalls(row, 8); at >= 0 {
			t.Fatalf("row %d: strays at call %d", i, at)
		}
	}
}

// P4.1, P4.2
func TestLongRowsOfCalls(t *testing.T) {
	l := calls()
	x := uint32(1)
	for i := range 500 {
		var row []both
		for range 200 {
			x = x*1664525 + 1013904223
			row = append(row, l[int(x>>8)%len(l)])
		}
		if at := runCalls(row, i%30); at >= 0 {
			t.Fatalf("row %d: strays at call %d", i, at)
		}
	}
}

// P4.2
func TestWhatWasSafeOutlivesAnyCrash(t *testing.T) {
	for _, bytes := range []string{"", "a", "abcdefgh"} {
		for safe := range len(bytes) + 1 {
			for keep := -1; keep <= len(bytes)+1; keep++ {
				for _, with := range []string{"", "x", strings.Repeat("x", 20)} {
					s := having(bytes[:safe], bytes[safe:])
					s.Arm(0)
					s.Sync()
					s.Crash(keep, with)
					if !strings.HasPrefix(s.Bytes(), bytes[:safe]) || s.Safe() != s.Len() || s.Len() > len(bytes) {
						t.Errorf("%q, %d of it safe, Crash(%d, %q): %q, Safe %d", bytes, safe, keep, with, s.Bytes(), s.Safe())
					}
				}
			}
		}
	}
}
