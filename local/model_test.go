package local_test

import (
	"slices"
	"testing"

	"shunter/local"
)

// plain is a queue by the chapter's words: plain lists.
type plain struct {
	next []int // one, or none
	ring []int
	room int
}

// model is queues and a row, beside plain lists that should be the same.
type model struct {
	queues []*local.Local
	global local.Global
	plains []*plain
	row    []int
	put    int   // so many were put in: the numbers below it
	out    []int // who was handed out
}

func newModel(rooms ...int) *model {
	m := &model{}
	for _, room := range rooms {
		m.queues = append(m.queues, local.New(room))
		m.plains = append(m.plains, &plain{room: room})
	}
	return m
}

// first cuts so many off the head of a list.
func first(l *[]int, n int) []int {
	n = max(0, min(n, len(*l)))
	head := slices.Clone((*l)[:n])
	*l = slices.Clone((*l)[n:])
	return head
}

// lay puts one into the ring, or some into the row: how many.
func (m *model) lay(p *plain, v int) int {
	if len(p.ring) < p.room {
		p.ring = append(p.ring, v)
		return 0
	}
	away := append(first(&p.ring, len(p.ring)/2), v)
	m.row = append(m.row, away...)
	return len(away)
}

func (m *model) turn(p *plain) int {
	n := 0
	for _, v := range first(&p.next, 1) {
		n = m.lay(p, v)
	}
	return n
}

// come lets the first of some go on: it; the others come into the ring.
func (p *plain) come(some []int) []int {
	on := first(&some, 1)
	p.ring = append(p.ring, some...)
	return on
}

func (m *model) steal(p, from *plain) []int {
	switch {
	case p == from:
		return nil
	case len(from.ring) > 0:
		return p.come(first(&from.ring, min(len(from.ring)-len(from.ring)/2, p.room-len(p.ring)+1)))
	}
	return first(&from.next, 1)
}

func (m *model) fetch(p *plain, processors int) []int {
	n := 1
	if processors >= 1 {
		n = len(m.row)/processors + 1
	}
	return p.come(first(&m.row, min(n, p.room-len(p.ring)+1)))
}

func (m *model) get(p *plain) []int {
	if len(p.next) > 0 {
		return first(&p.next, 1)
	}
	return first(&p.ring, 1)
}

// handed: is what was handed out just that, which is one or none? It is out from now on.
func (m *model) handed(v int, ok bool, want []int) bool {
	if len(want) == 0 {
		return v == local.None && !ok
	}
	m.out = append(m.out, want...)
	return v == want[0] && ok
}

// call is a call of the queue i, and of a model; false: their answers aren't the same.
type call func(m *model, i int) bool

func puts(m *model, i int) bool {
	m.put++
	return m.queues[i].Put(m.put-1, &m.global) == m.lay(m.plains[i], m.put-1)
}

func readies(m *model, i int) bool {
	m.put++
	want := m.turn(m.plains[i])
	m.plains[i].next = []int{m.put - 1}
	return m.queues[i].Ready(m.put-1, &m.global) == want
}

func turns(m *model, i int) bool {
	return m.queues[i].Turn(&m.global) == m.turn(m.plains[i])
}

func gets(m *model, i int) bool {
	v, ok := m.queues[i].Get()
	return m.handed(v, ok, m.get(m.plains[i]))
}

func fetches(processors int) call {
	return func(m *model, i int) bool {
		v, ok := m.queues[i].Fetch(&m.global, processors)
		return m.handed(v, ok, m.fetch(m.plains[i], processors))
	}
}

// steals is from the queue so many behind i; 0: from itself.
func steals(behind int) call {
	return func(m *model, i int) bool {
		from := (i + behind) % len(m.queues)
		v, ok := m.queues[i].Steal(m.queues[from])
		return m.handed(v, ok, m.steal(m.plains[i], m.plains[from]))
	}
}

// putsGlobal puts so many at once.
func putsGlobal(many int) call {
	return func(m *model, _ int) bool {
		l := row(m.put, many)
		m.put += many
		m.row = append(m.row, l...)
		m.global.Put(l...)
		return true
	}
}

func takesGlobal(n int) call {
	return func(m *model, _ int) bool {
		want := first(&m.row, n)
		m.out = append(m.out, want...)
		return slices.Equal(m.global.Take(n), want)
	}
}

// agrees: are the queues and the row the same as the plain ones?
func (m *model) agrees() bool {
	for i, q := range m.queues {
		p := m.plains[i]
		next := local.None
		if len(p.next) > 0 {
			next = p.next[0]
		}
		if q.Next() != next || !slices.Equal(q.List(), p.ring) || q.Len() != len(p.next)+len(p.ring) {
			return false
		}
	}
	return m.global.Len() == len(m.row) && slices.Equal(m.global.List(), m.row)
}

// nobodyLost: whoever was put in is in just one queue, or was handed out once. It asks the queues, not the plain lists.
func (m *model) nobodyLost() bool {
	all := append(slices.Clone(m.out), m.global.List()...)
	for _, q := range m.queues {
		if q.Next() != local.None {
			all = append(all, q.Next())
		}
		all = append(all, q.List()...)
	}
	slices.Sort(all)
	return slices.Equal(all, row(0, m.put))
}

// allCalls: those that put somebody in stand there as often as those that hand out.
func allCalls() []call {
	return []call{
		puts, puts, puts, readies, readies, readies, readies, turns, turns,
		gets, gets, steals(0), steals(1), steals(1), steals(2),
		fetches(-1), fetches(0), fetches(1), fetches(2), fetches(3), fetches(64),
		putsGlobal(0), putsGlobal(1), putsGlobal(7), takesGlobal(-1), takesGlobal(1), takesGlobal(3),
	}
}

// P8.1, P8.2: all rows of four calls, of one queue or of another.
func TestAllShortRowsOfCalls(t *testing.T) {
	l := []call{puts, readies, turns, gets, steals(1), fetches(0), fetches(2), putsGlobal(2)}
	for _, rooms := range [][]int{{1, 1}, {1, 2}, {2, 1}, {3, 2}} {
		for i := range 16 * 16 * 16 * 16 {
			m := newModel(rooms...)
			readies(m, 0)
			readies(m, 0)
			n := i
			for at := range 4 {
				if !l[n%8](m, n/8%2) || !m.agrees() || !m.nobodyLost() {
					t.Fatalf("rooms %v, row %d: strays at call %d", rooms, i, at)
				}
				n /= 16
			}
		}
	}
}

// P8.1, P8.2
func TestLongRowsOfCalls(t *testing.T) {
	l := allCalls()
	x := uint32(3)
	draw := func(n int) int {
		x = x*1664525 + 1013904223
		return int(x>>8) % n
	}
	for i := range 400 {
		m := newModel(1+i%3, 1+i%7, 1+i%20, 2)
		for at := range 300 {
			if !l[draw(len(l))](m, draw(len(m.queues))) || !m.agrees() || !m.nobodyLost() {
				t.Fatalf("row %d: strays at call %d", i, at)
			}
		}
	}
}

// P8.2: whoever is put in is got in the end, and once.
func TestAllAreGotInTheEnd(t *testing.T) {
	for _, rooms := range [][]int{{1}, {2}, {7, 1}, {4, 4, 4}, {1024, 1, 16}} {
		m := newModel(rooms...)
		for i := range 5000 {
			q := i % len(rooms)
			puts(m, q)
			readies(m, q)
			steals(i)(m, q)
		}
		for i := range 20000 {
			q := i % len(rooms)
			gets(m, q)
			fetches(i%5)(m, q)
			turns(m, q)
		}
		if !m.agrees() || !m.nobodyLost() || len(m.out) != m.put || m.put != 10000 {
			t.Errorf("rooms %v: %d of %d were got", rooms, len(m.out), m.put)
		}
	}
}
