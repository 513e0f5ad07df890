package tool

import (
	"slices"
	"strconv"
	"strings"

	"shunter/api"
	"shunter/asm"
	"shunter/sched"
)

const (
	lineEnd = "\n"
	blank   = " "
)

// The words that a job's lines begin with.
const (
	wordConfig  = "config"
	wordSteps   = "steps"
	wordDraw    = "draw"
	wordLog     = "log"
	wordProgram = "program"
)

// How many numbers stand behind a word.
const (
	configNumbers = 4
	stepsNumbers  = 1
)

// mostOfConfig is what each of a config's numbers is at most, ahead of any look at what it says.
const mostOfConfig = 1 << 20

// Parse: the job of a text; which line is wrong, from 0 on; -1: none, but one isn't there.
func Parse(text string) (Job, int, api.Errno) {
	if len(text) > MaxText {
		return Job{}, 0, api.ErrBig
	}
	var r reader
	at, err := r.text(text)
	if err != api.OK {
		return Job{}, at, err
	}
	return r.job, at, api.OK
}

// reader is a job, as far as its text was read.
type reader struct {
	job    Job
	config bool // it was told
	steps  bool // likewise
}

// text: all of it; which line is wrong; -1: none, but one isn't there, perhaps.
func (r *reader) text(text string) (int, api.Errno) {
	table := r.table()
	for at := 0; text != ""; at++ {
		var first string
		first, text, _ = strings.Cut(text, lineEnd)
		if first == wordProgram {
			return r.readProgram(text, at)
		}
		if first == "" {
			continue
		}
		words := strings.Split(first, blank)
		read, ok := table[words[0]]
		if !ok {
			return at, api.ErrKind
		}
		if err := read(words[1:]); err != api.OK {
			return at, err
		}
	}
	return -1, api.ErrEnd
}

// table is who reads what stands behind a line's first word.
func (r *reader) table() map[string]func(words []string) api.Errno {
	return map[string]func(words []string) api.Errno{
		wordConfig: r.readConfig,
		wordSteps:  r.readSteps,
		wordDraw:   r.readDraw,
		wordLog:    r.readLog,
	}
}

func (r *reader) readConfig(words []string) api.Errno {
	if r.config {
		return api.ErrTwice
	}
	n, err := just(configNumbers, words)
	if err != api.OK {
		return err
	}
	// Ahead of making ints of them.
	if slices.Max(n) > mostOfConfig {
		return api.ErrArg
	}
	c := sched.Config{P: int(n[0]), M: int(n[1]), Ring: int(n[2]), Slice: int(n[3])}
	if err := c.Check(); err != api.OK {
		return err
	}
	r.job.Config, r.config = c, true
	return api.OK
}

func (r *reader) readSteps(words []string) api.Errno {
	if r.steps {
		return api.ErrTwice
	}
	n, err := just(stepsNumbers, words)
	if err != api.OK {
		return err
	}
	if n[0] > api.MaxSteps {
		return api.ErrBig
	}
	r.job.Steps, r.steps = int(n[0]), true
	return api.OK
}

func (r *reader) readDraw(words []string) api.Errno {
	l, err := numbers(words)
	if err != api.OK {
		return err
	}
	if len(r.job.Numbers)+len(l) > MaxNumbers {
		return api.ErrBig
	}
	r.job.Numbers = append(r.job.Numbers, l...)
	return api.OK
}

func (r *reader) readLog(words []string) api.Errno {
	if r.job.Logged {
		return api.ErrTwice
	}
	if len(words) != 1 {
		return api.ErrForm
	}
	log, ok := unhex(words[0])
	if !ok {
		return api.ErrForm
	}
	r.job.Log, r.job.Logged = log, true
	return api.OK
}

// readProgram: the text behind the line at, to its end.
func (r *reader) readProgram(text string, at int) (int, api.Errno) {
	p, wrong, err := asm.Parse(text)
	if err != api.OK {
		// The program's line -1 is the one ahead of its first, and so that of the word.
		return at + 1 + wrong, err
	}
	if !r.config {
		return -1, api.ErrNone
	}
	r.job.Program = p
	return -1, api.OK
}

// just: words that are just so many numbers.
func just(many int, words []string) ([]uint64, api.Errno) {
	l, err := numbers(words[:min(many, len(words))])
	switch {
	case err != api.OK:
		return nil, err
	case len(words) > many:
		return nil, api.ErrForm
	case len(words) < many:
		return nil, api.ErrEnd
	}
	return l, api.OK
}

// numbers: words that are numbers, one by one.
func numbers(words []string) ([]uint64, api.Errno) {
	l := make([]uint64, len(words))
	for i, word := range words {
		// Ahead of strconv, which takes needless noughts, too, and tells of a number that is too long before it has seen all of it.
		if !hasForm(word) {
			return nil, api.ErrForm
		}
		n, err := strconv.ParseUint(word, 10, 64)
		if err != nil {
			return nil, api.ErrBig
		}
		l[i] = n
	}
	return l, api.OK
}

// hasForm: is it a number by tens, from 0 on, however great?
func hasForm(word string) bool {
	if word == "" || word[0] == '0' && word != "0" {
		return false
	}
	for i := range len(word) {
		if word[i] < '0' || word[i] > '9' {
			return false
		}
	}
	return true
}
