package tool_test

import (
	"fmt"
	"maps"
	"math/big"
	"math/rand"
	"regexp"
	"slices"
	"strings"
	"testing"

	"shunter/api"
	"shunter/asm"
	"shunter/code"
	"shunter/sample"
	"shunter/sched"
	"shunter/tool"
)

// model reads a text by the chapter's words.
type model struct {
	j    tool.Job
	told map[string]bool
	rest string // what is left of the line
}

var (
	numberForm = regexp.MustCompile(`\A(0|[1-9][0-9]*)\z`)
	logForm    = regexp.MustCompile(`\A (([0-9a-f][0-9a-f])*)\z`)
	firstWord  = regexp.MustCompile(`\A[^ ]*`)
	oneNumber  = regexp.MustCompile(`\A [^ ]*`)
)

// read is what Parse should answer.
func read(text string) (tool.Job, int, api.Errno) {
	if len(text) > 40000 {
		return tool.Job{}, 0, api.ErrBig
	}
	lines := strings.Split(text, "\n")
	program := slices.Index(lines, "program")
	ahead := lines
	if program >= 0 {
		ahead = lines[:program]
	}
	m := model{told: map[string]bool{}}
	for i, line := range ahead {
		if err := m.line(line); line != "" && err != api.OK {
			return tool.Job{}, i, err
		}
	}
	if program < 0 {
		return tool.Job{}, -1, api.ErrEnd
	}
	p, at, err := asm.Parse(strings.Join(lines[program+1:], "\n"))
	switch {
	case err != api.OK && at == -1:
		return tool.Job{}, program, err
	case err != api.OK:
		return tool.Job{}, program + 1 + at, err
	case !m.told["config"]:
		return tool.Job{}, -1, api.ErrNone
	}
	m.j.Program = p
	return m.j, -1, api.OK
}

func (m *model) line(line string) api.Errno {
	word := firstWord.FindString(line)
	m.rest = line[len(word):]
	if word != "config" && word != "steps" && word != "draw" && word != "log" {
		return api.ErrKind
	}
	if m.told[word] && word != "draw" {
		return api.ErrTwice
	}
	m.told[word] = true
	switch word {
	case "config":
		return m.config()
	case "steps":
		return m.steps()
	case "draw":
		return m.draw()
	}
	return m.log()
}

// number is the next one of the line.
func (m *model) number() (*big.Int, api.Errno) {
	word := oneNumber.FindString(m.rest)
	m.rest = m.rest[len(word):]
	if !numberForm.MatchString(word[1:]) {
		return nil, api.ErrForm
	}
	n, _ := new(big.Int).SetString(word[1:], 10)
	if !n.IsUint64() {
		return nil, api.ErrBig
	}
	return n, api.OK
}

// just so many numbers, that stand to the line's end.
func (m *model) just(many int) ([]*big.Int, api.Errno) {
	var l []*big.Int
	for m.rest != "" {
		if len(l) == many {
			return nil, api.ErrForm
		}
		n, err := m.number()
		if err != api.OK {
			return nil, err
		}
		l = append(l, n)
	}
	if len(l) < many {
		return nil, api.ErrEnd
	}
	return l, api.OK
}

func (m *model) config() api.Errno {
	l, err := m.just(4)
	if err != api.OK {
		return err
	}
	for i, most := range []int64{64, 64, 1024, 1024} {
		least := []int64{1, 1, 2, 1}[i]
		if l[i].Cmp(big.NewInt(least)) < 0 || l[i].Cmp(big.NewInt(most)) > 0 {
			return api.ErrArg
		}
	}
	m.j.Config = sched.Config{P: int(l[0].Int64()), M: int(l[1].Int64()), Ring: int(l[2].Int64()), Slice: int(l[3].Int64())}
	return api.OK
}

func (m *model) steps() api.Errno {
	l, err := m.just(1)
	if err != api.OK {
		return err
	}
	if l[0].Cmp(big.NewInt(1048576)) > 0 {
		return api.ErrBig
	}
	m.j.Steps = int(l[0].Int64())
	return api.OK
}

func (m *model) draw() api.Errno {
	for m.rest != "" {
		n, err := m.number()
		if err != api.OK {
			return err
		}
		m.j.Numbers = append(m.j.Numbers, n.Uint64())
	}
	if len(m.j.Numbers) > 4000 {
		return api.ErrBig
	}
	return api.OK
}

func (m *model) log() api.Errno {
	found := logForm.FindStringSubmatch(m.rest)
	if found == nil {
		return api.ErrForm
	}
	var b []byte
	for i := 0; i < len(found[1]); i += 2 {
		var x byte
		fmt.Sscanf(found[1][i:i+2], "%x", &x)
		b = append(b, x)
	}
	m.j.Log, m.j.Logged = string(b), true
	return api.OK
}

// program is one by chance, as its text can tell it.
func program(r sample.Chance) code.Program {
	p := sample.Program(r)
	for i, c := range p.Cases {
		if c.Way == code.WayElse {
			p.Cases[i] = code.Case{Way: code.WayElse}
		}
	}
	return p
}

// token is a word that stands somewhere in a line, or shouldn't.
func token(r *rand.Rand) string {
	fits := slices.Sorted(maps.Keys(fit))
	l := sample.Some(r, forms, great, fits, fits, fits, []string{"config", "steps", "draw", "log", "program", "func", "nop", "chan", "53", "5", "ff", "536700", "0", "1", "2", "64", "65", "1024", "1025", "1048576", "1048577"})
	return l[r.Intn(len(l))]
}

// lineByChance is one that may be, mostly.
func lineByChance(r *rand.Rand) string {
	switch r.Intn(7) {
	case 0:
		return fmt.Sprintf("config %d %d %d %d", r.Intn(67), r.Intn(67), r.Intn(10), r.Intn(10))
	case 1:
		return "steps " + token(r)
	case 2, 3:
		return "draw" + strings.Repeat(" "+token(r), r.Intn(4))
	case 4:
		return fmt.Sprintf("log %x", r.Intn(1<<16))
	case 5:
		return ""
	}
	return token(r)
}

// spoil is a text that is another, somehow: a word, a line, a byte, an end.
func spoil(r *rand.Rand, text string) string {
	lines := strings.Split(text, "\n")
	at := r.Intn(len(lines))
	if r.Intn(2) == 0 {
		// Where the program isn't yet.
		at = r.Intn(slices.Index(append(lines, "program"), "program") + 1)
		at = min(at, len(lines)-1)
	}
	switch r.Intn(9) {
	case 0:
		lines = slices.Insert(lines, at, lineByChance(r))
	case 1:
		lines = slices.Insert(lines, at, lines[r.Intn(len(lines))])
	case 2:
		lines = slices.Delete(lines, at, at+1)
	case 3:
		other := r.Intn(len(lines))
		lines[at], lines[other] = lines[other], lines[at]
	case 4, 5:
		words := strings.Split(lines[at], " ")
		words[r.Intn(len(words))] = token(r)
		lines[at] = strings.Join(words, " ")
	case 6:
		words := strings.Split(lines[at], " ")
		lines[at] = strings.Join(slices.Insert(words, r.Intn(len(words)+1), token(r)), " ")
	case 7:
		if b := []byte(lines[at]); len(b) > 0 {
			b[r.Intn(len(b))] = sample.Some(r, ' ', '\n', '0', '1', '9', 'a', 'g', 'F', '-', byte(r.Intn(256)))
			lines[at] = string(b)
		}
	case 8:
		lines[at] += sample.Some(r, " ", "  ", " 1", " x", "0", "\r", "\n")
	}
	return strings.Join(lines, "\n")
}

// jobByChance is a text of one that may be; many of its lines are left out, or are told twice.
func jobByChance(r *rand.Rand) string {
	c := sample.Config(r)
	lines := []string{fmt.Sprintf("config %d %d %d %d", c.P, c.M, c.Ring, c.Slice)}
	if r.Intn(3) > 0 {
		lines = append(lines, fmt.Sprintf("steps %d", r.Intn(1<<r.Intn(21))))
	}
	for range r.Intn(4) {
		lines = append(lines, strings.Repeat("\n", r.Intn(2))+strings.TrimSuffix(fmt.Sprintln(append([]any{"draw"}, anyNumbers(sample.Numbers(r, c, r.Intn(6)))...)...), "\n"))
	}
	if r.Intn(3) == 0 {
		lines = append(lines, fmt.Sprintf("log %0*x", 2*r.Intn(4), ""))
	}
	r.Shuffle(len(lines), func(i, k int) { lines[i], lines[k] = lines[k], lines[i] })
	p := nop
	if r.Intn(3) == 0 {
		p = "program\n" + asm.Text(program(r))
	}
	if r.Intn(20) == 0 {
		p = ""
	}
	return strings.Join(append(lines, p), "\n")
}

func anyNumbers(l []uint64) []any {
	var all []any
	for _, n := range l {
		all = append(all, n)
	}
	return all
}

// P25.1: drawn texts, as they are and spoilt, by the chapter's words.
func TestDrawnTexts(t *testing.T) {
	seen := map[string]int{}
	for seed := range int64(60000) {
		r := rand.New(rand.NewSource(seed))
		text := jobByChance(r)
		for range r.Intn(4) {
			text = spoil(r, text)
		}
		want, line, err := read(text)
		j, at, got := tool.Parse(text)
		if !same(j, want) || at != line || got != err {
			t.Fatalf("seed %d: %q: %+v, %d, %d, not %+v, %d, %d", seed, text, j, at, got, want, line, err)
		}
		seen[sort(text, line, err)]++
		if err == api.OK && want.Logged {
			seen["a log"]++
		}
		if err == api.OK && len(want.Numbers) > 2 {
			seen["numbers"]++
		}
	}
	for what, least := range map[string]int{
		"well": 15000, "a log": 4000, "numbers": 9000,
		"9 of another": 3000, "2 of none": 700, "5 of none": 400,
		"11 of config": 500, "1 of config": 300, "3 of config": 100, "2 of config": 100, "4 of config": 500,
		"11 of steps": 300, "1 of steps": 300, "3 of steps": 300, "2 of steps": 15,
		"1 of draw": 400, "3 of draw": 100,
		"11 of log": 300, "1 of log": 300,
		"9 of the program": 500, "1 of the program": 500, "2 of the program": 40, "3 of the program": 300, "4 of the program": 100,
	} {
		if seen[what] < least {
			t.Errorf("%s: %d times of %d", what, seen[what], least)
		}
	}
}

// sort is of what sort an answer is.
func sort(text string, line int, err api.Errno) string {
	if err == api.OK {
		return "well"
	}
	what, lines := "none", strings.Split(text, "\n")
	if line >= 0 {
		what = firstWord.FindString(lines[line])
		if program := slices.Index(lines, "program"); program >= 0 && line >= program {
			what = "the program"
		} else if err == api.ErrKind {
			what = "another"
		}
	}
	return fmt.Sprintf("%d of %s", err, what)
}

// P25.1, P1: texts of any bytes of a few, and of any pieces, by the chapter's words.
func TestAnyTexts(t *testing.T) {
	pieces := []string{"config", "steps", "draw", "log", "program", "func", "nop", " ", " ", " ", "\n", "\n", "\n", "0", "1", "2", "53", "5", "18446744073709551615", "1048577", "x", "config 1 1 2 5", "steps 5", "log 53", "program\n"}
	well := 0
	for seed := range int64(60000) {
		r := rand.New(rand.NewSource(seed))
		text := ""
		for range r.Intn(12) {
			text += pieces[r.Intn(len(pieces))]
		}
		if r.Intn(4) == 0 {
			text = "config 1 1 2 5\n" + text + "\nprogram\nfunc\nnop"
		}
		want, line, err := read(text)
		if j, at, got := tool.Parse(text); !same(j, want) || at != line || got != err {
			t.Fatalf("%q: %+v, %d, %d, not %+v, %d, %d", text, j, at, got, want, line, err)
		}
		if err == api.OK {
			well++
		}
	}
	if well < 1000 {
		t.Error(well)
	}
}
