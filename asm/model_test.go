package asm_test

import (
	"math/big"
	"math/rand"
	"regexp"
	"strings"
	"testing"

	"shunter/api"
	"shunter/asm"
	"shunter/code"
)

// model reads a text byte by byte, by the chapter's words alone.
type model struct {
	text       string
	place      int
	funcs      int
	told       bool
	parts      code.Program
	word       string
	numbers    [3]int
	howMany    int
	lineNumber int
}

var form = regexp.MustCompile(`\A(0|-?[1-9][0-9]*)\z`)

// next is the word from the place to a blank, a line's end or the text's.
func (m *model) next() string {
	from := m.place
	for m.place < len(m.text) && m.text[m.place] != 10 && m.text[m.place] != 32 {
		m.place++
	}
	return m.text[from:m.place]
}

// more: is there a blank? It is passed.
func (m *model) more() bool {
	if m.place < len(m.text) && m.text[m.place] == 32 {
		m.place++
		return true
	}
	return false
}

func (m *model) number() (int, api.Errno) {
	if !m.more() {
		return 0, api.ErrEnd
	}
	w := m.next()
	if !form.MatchString(w) {
		return 0, api.ErrForm
	}
	v, _ := new(big.Int).SetString(w, 10)
	if !v.IsInt64() {
		return 0, api.ErrBig
	}
	return int(v.Int64()), api.OK
}

// has is how many numbers a word has here; -1: it can't stand here.
func (m *model) has() int {
	if m.word == "func" {
		return 0
	}
	if m.funcs == 0 {
		switch m.word {
		case "chan", "locks":
			return 1
		case "recv", "send":
			return 2
		case "else":
			return 0
		}
		return -1
	}
	for i, w := range words {
		if w == m.word {
			return fields[i]
		}
	}
	return -1
}

func (m *model) line() api.Errno {
	m.word = m.next()
	m.numbers = [3]int{}
	m.howMany = m.has()
	if m.howMany < 0 {
		return api.ErrKind
	}
	for i := 0; i < m.howMany; i++ {
		v, err := m.number()
		if err != api.OK {
			return err
		}
		m.numbers[i] = v
	}
	if m.more() {
		return api.ErrForm
	}
	return m.put()
}

func (m *model) put() api.Errno {
	p := &m.parts
	a, b, c := m.numbers[0], m.numbers[1], m.numbers[2]
	switch {
	case m.word == "func":
		m.funcs++
		p.Funcs = append(p.Funcs, []code.Ins{})
	case m.funcs > 0:
		for op, w := range words {
			if w == m.word {
				p.Funcs[m.funcs-1] = append(p.Funcs[m.funcs-1], code.Ins{Op: code.Op(op), A: a, B: b, C: c})
			}
		}
	case m.word == "chan":
		p.Chans = append(p.Chans, a)
	case m.word == "locks" && m.told:
		return api.ErrTwice
	case m.word == "locks":
		m.told, p.Locks = true, a
	default:
		way := map[string]int{"recv": 0, "send": 1, "else": 2}[m.word]
		p.Cases = append(p.Cases, code.Case{Way: way, Chan: a, Reg: b})
	}
	return api.OK
}

// read is what Parse should answer.
func read(text string) (code.Program, int, api.Errno) {
	if len(text) > 20000 {
		return code.Program{}, 0, api.ErrBig
	}
	m := model{text: text}
	for ; m.place < len(text); m.place++ {
		if text[m.place] != 10 {
			if err := m.line(); err != api.OK {
				return code.Program{}, m.lineNumber, err
			}
		}
		m.lineNumber++
	}
	if f, ok := m.parts.Check(); !ok {
		return code.Program{}, -1, f.Err
	}
	return m.parts, -1, api.OK
}

// held holds Parse against the model.
func held(t *testing.T, text string) api.Errno {
	t.Helper()
	p, at, err := read(text)
	got, line, e := asm.Parse(text)
	if !same(p, got) || at != line || err != e {
		t.Fatalf("%q: %+v, %d, %d, not %+v, %d, %d", short(text), got, line, e, p, at, err)
	}
	if err == api.OK {
		again, line, e := asm.Parse(asm.Text(got))
		if len(asm.Text(got)) <= 20000 && (!same(again, got) || line != -1 || e != api.OK) {
			t.Fatalf("%q: again %+v, %d, %d", short(text), again, line, e)
		}
	}
	return err
}

// spoil is a text with something else in it.
func spoil(r *rand.Rand, text string) string {
	at := r.Intn(len(text) + 1)
	to := min(len(text), at+r.Intn(4))
	bits := []string{
		"", " ", "\n", "  ", "\n\n", "-", "0", "1", "8", "+", "x", "func\n", "chan 1\n", "locks 1\n", "locks 0\n", "else\n", "recv 0 0\n", "send 0 0\n", "\nnop\n", "\nadd 1 2 3\n", "\nif 0 0\n", "01", "9223372036854775808", "-9223372036854775808", "N", "\t", "\r", "\x00", "\xff",
	}
	return text[:at] + bits[r.Intn(len(bits))] + text[to:]
}

// P11.1: texts of programs, spoilt a little.
func TestAgainstModel(t *testing.T) {
	r := rand.New(rand.NewSource(2))
	seen := map[api.Errno]int{}
	for range 20000 {
		text := asm.Text(anyProgram(r))
		for range r.Intn(4) {
			text = spoil(r, text)
		}
		seen[held(t, text)]++
	}
	for _, err := range []api.Errno{api.OK, api.ErrForm, api.ErrEnd, api.ErrBig, api.ErrArg, api.ErrKind, api.ErrTwice} {
		if seen[err] == 0 {
			t.Errorf("never %d", err)
		}
	}
}

// P11.1: lines of pieces, right ones and wrong ones.
func TestPieces(t *testing.T) {
	r := rand.New(rand.NewSource(3))
	first := append([]string{"func", "func", "func", "chan", "locks", "else", "", "FUNC", "nil"}, words...)
	behind := []string{"0", "1", "2", "7", "8", "-1", "0", "1", "0", "", "-", "-0", "00", "01", "+1", "x", "9223372036854775807", "9223372036854775808", "-9223372036854775808", "-9223372036854775809"}
	for range 60000 {
		var lines []string
		for range r.Intn(7) {
			line := first[r.Intn(len(first))]
			for range r.Intn(5) {
				line += " " + behind[r.Intn(1+r.Intn(len(behind)))]
			}
			lines = append(lines, line)
		}
		held(t, strings.Join(lines, "\n"))
	}
}

// P11.1, P1: any bytes.
func TestAnyBytes(t *testing.T) {
	r := rand.New(rand.NewSource(4))
	for range 20000 {
		b := make([]byte, r.Intn(40))
		for i := range b {
			b[i] = "\n 01-9funcopelk\x00\xff"[r.Intn(17)]
			if r.Intn(10) == 0 {
				b[i] = byte(r.Intn(256))
			}
		}
		held(t, string(b))
		held(t, "func\n"+string(b))
	}
}

// P11.1: great texts, at the bound and above it.
func TestGreatTexts(t *testing.T) {
	r := rand.New(rand.NewSource(5))
	for range 200 {
		text := strings.Repeat("\n", 19990+r.Intn(12))
		text = text[:r.Intn(len(text))] + asm.Text(anyProgram(r)) + text
		held(t, text[:min(len(text), 19995+r.Intn(12))])
	}
	for _, line := range []string{"\n", " ", "func\n", "chan 1\n", "else\n", "locks", "0", "9", "func\nconst 0 -", "x"} {
		for _, many := range []int{19999, 20000, 20001} {
			held(t, strings.Repeat(line, many/len(line)+1)[:many])
		}
	}
	held(t, "func\nconst 0 "+strings.Repeat("9", 19987))
	held(t, "func\nconst 0 "+strings.Repeat("9", 19988))
}
