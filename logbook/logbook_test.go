package logbook_test

import (
	"encoding/binary"
	"hash/crc32"
	"math"
	"slices"
	"strings"
	"testing"

	"shunter/api"
	"shunter/logbook"
	"shunter/record"
	"shunter/store"
)

// decision is the i-th of a row of decisions of all kinds, each another one.
func decision(i int) record.Record {
	return record.Record{Kind: i%4 + 1, N: uint64(i) * 7}
}

// decisions are those from the from-th up to the to-th of that row, but for the last.
func decisions(from, to int) []record.Record {
	var l []record.Record
	for i := from; i < to; i++ {
		l = append(l, decision(i))
	}
	return l
}

// framed is a segment by the words of layer 5's chapter.
func framed(seq uint64, body string) string {
	b := binary.AppendUvarint([]byte("Sg"), seq)
	b = binary.AppendUvarint(b, uint64(len(body)))
	b = append(b, body...)
	return string(binary.LittleEndian.AppendUint32(b, crc32.ChecksumIEEE(b)))
}

// logged is a log of these bodies.
func logged(bodies ...string) string {
	s := ""
	for i, body := range bodies {
		s += framed(uint64(i), body)
	}
	return s
}

// logOf is the log of the first n decisions of the row, size of them a segment.
func logOf(n, size int) string {
	var bodies []string
	for i := 0; i < n; i += size {
		bodies = append(bodies, record.Bytes(decisions(i, min(i+size, n))...))
	}
	return logged(bodies...)
}

// having is a store of much room, with bytes that are safe.
func having(text string) *store.Store {
	s := store.New(1 << 20)
	s.Append(text)
	s.Sync()
	return s
}

func checkError(t *testing.T, name string, got, want api.Errno) {
	t.Helper()
	if got != want {
		t.Errorf("%s: error %d, not %d", name, got, want)
	}
}

// check holds a book against how many decisions are sure, and wait, and its store against its bytes, all of which must be safe.
func check(t *testing.T, name string, b *logbook.Book, s *store.Store, sure, waiting int, bytes string) {
	t.Helper()
	if b.Sure() != sure || b.Waiting() != waiting {
		t.Errorf("%s: Sure %d, Waiting %d, not %d, %d", name, b.Sure(), b.Waiting(), sure, waiting)
	}
	if s.Bytes() != bytes || s.Safe() != len(bytes) {
		t.Errorf("%s: the store has %d bytes, %d of them safe, not those %d: %.80x, not %.80x", name, s.Len(), s.Safe(), len(bytes), s.Bytes(), bytes)
	}
}

func checkRead(t *testing.T, text string, l []record.Record, end, segments int) {
	t.Helper()
	got, e, n := logbook.Read(text)
	if !slices.Equal(got, l) || e != end || n != segments {
		t.Errorf("Read(%.80x) = %v, %d, %d, not %v, %d, %d", text, got, e, n, l, end, segments)
	}
}

// open opens what must open.
func open(t *testing.T, s *store.Store, size int, l []record.Record) *logbook.Book {
	t.Helper()
	b, got, err := logbook.Open(s, size)
	if b == nil || !slices.Equal(got, l) || err != api.OK {
		t.Fatalf("Open with size %d: %v, %v, %d, not %v", size, b, got, err, l)
	}
	return b
}

// add adds the decisions of the row from the from-th up to the to-th, but for the last.
func add(t *testing.T, b *logbook.Book, from, to int) {
	t.Helper()
	for i := from; i < to; i++ {
		checkError(t, "Add", b.Add(decision(i)), api.OK)
	}
}

// P6.1
func TestMostSize(t *testing.T) {
	if logbook.MostSize != 400 {
		t.Errorf("MostSize: %d", logbook.MostSize)
	}
}

// P6.1
func TestRead(t *testing.T) {
	for _, size := range []int{1, 2, 3, 400} {
		for _, n := range []int{0, 1, 2, 3, 7, 399, 400, 401, 1201} {
			s := logOf(n, size)
			checkRead(t, s, decisions(0, n), len(s), (n+size-1)/size)
		}
	}
}

// P6.1
func TestReadOfGreatDecisions(t *testing.T) {
	l := slices.Repeat([]record.Record{{Kind: record.Rand, N: record.MostN}}, 400)
	l = append(l, record.Record{Kind: record.Pick})
	s := logged(record.Bytes(l[:400]...), record.Bytes(l[400:]...))
	checkRead(t, s, l, len(s), 2)
}

// P6.1
func TestReadOfSegmentsWithoutDecisions(t *testing.T) {
	checkRead(t, "", nil, 0, 0)
	s := logged("")
	checkRead(t, s, nil, len(s), 1)
	checkRead(t, s+"x", nil, len(s), 1)
	s = logged("", "", "")
	checkRead(t, s, nil, len(s), 3)
	s = logged("", decision(0).Bytes(), "", decision(1).Bytes(), "")
	checkRead(t, s, decisions(0, 2), len(s), 5)
}

// noDecisions are bytes that aren't decisions to their end.
var noDecisions = []string{
	"\x80",
	"\xff\xff",
	"\x80\x00",
	"\x80\x80\x80\x80\x80\x80\x80\x80\x80\x02",
	"\xff\xff\xff\xff\xff\xff\xff\xff\xff\xff",
	"\x0c\x80",
	"\x0c\x80\x00",
	"\x80\x00\x0c",
	"\x0c\x0d\x0e\xff\x80\x00\x0c",
}

// P6.1
func TestReadUpToABodyThatIsNotDecisions(t *testing.T) {
	for _, body := range noDecisions {
		checkRead(t, logged(body), nil, 0, 0)
		checkRead(t, logged(body, "\x0c"), nil, 0, 0)
		ahead := logOf(5, 2)
		for _, behind := range []string{"", framed(4, "\x0c"), framed(3, "\x0c"), "x"} {
			checkRead(t, ahead+framed(3, body)+behind, decisions(0, 5), len(ahead), 3)
		}
		empty := logged("", "")
		checkRead(t, empty+framed(2, body), nil, len(empty), 2)
	}
}

// P6.1
func TestReadUpToAnotherNumber(t *testing.T) {
	ahead := logOf(5, 2)
	for _, seq := range []uint64{0, 1, 2, 4, 5, 3 + 1<<32, math.MaxUint64} {
		checkRead(t, ahead+framed(seq, "\x0c")+framed(3, "\x0c"), decisions(0, 5), len(ahead), 3)
	}
	for _, seq := range []uint64{1, 2, 300, math.MaxUint64} {
		checkRead(t, framed(seq, "\x0c"), nil, 0, 0)
		checkRead(t, framed(seq, "\x0c")+logOf(5, 2), nil, 0, 0)
	}
}

// P6.1
func TestReadUpToWhatIsNoSegment(t *testing.T) {
	ahead := logOf(5, 2)
	next := framed(3, "\x0c")
	for _, behind := range []string{"x", "S", "Sg", "Sg\x03", "Sg\x03\x80\x00", "Sg\x03\x81\x20", "\x00", "\x0c", next[:len(next)-1] + "?", "x" + next} {
		checkRead(t, ahead+behind, decisions(0, 5), len(ahead), 3)
		checkRead(t, ahead+behind+next, decisions(0, 5), len(ahead), 3)
		checkRead(t, behind, nil, 0, 0)
	}
}

// P6.1
func TestReadOfWhatIsSpoiltAnywhere(t *testing.T) {
	s := logOf(7, 3)
	whole := 0 // segments ahead of byte i
	for i := range len(s) {
		if i == len(logOf(3*whole+3, 3)) {
			whole++
		}
		l, end := decisions(0, 3*whole), len(logOf(3*whole, 3))
		checkRead(t, s[:i], l, end, whole)
		b := []byte(s)
		b[i] ^= 1 << (i % 8)
		checkRead(t, string(b), l, end, whole)
	}
}

// P6.1
func TestOpenOfAnEmptyStore(t *testing.T) {
	for _, size := range []int{math.MinInt, -1, 0, 1, 2, 400, 401, math.MaxInt} {
		s := store.New(1 << 20)
		b := open(t, s, size, nil)
		check(t, "Open", b, s, 0, 0, "")
	}
}

// P6.1
func TestSizes(t *testing.T) {
	for _, c := range []struct{ size, counts int }{
		{math.MinInt, 1}, {-400, 1}, {-1, 1}, {0, 1}, {1, 1}, {2, 2}, {3, 3}, {100, 100},
		{399, 399}, {400, 400}, {401, 400}, {800, 400}, {math.MaxInt, 400},
	} {
		s := store.New(1 << 20)
		b := open(t, s, c.size, nil)
		for i := range 2*c.counts + 1 {
			checkError(t, "Add", b.Add(decision(i)), api.OK)
			n := i + 1
			sure := n - n%c.counts
			check(t, "Add", b, s, sure, n-sure, logOf(sure, c.counts))
		}
		checkError(t, "Flush", b.Flush(), api.OK)
		check(t, "Flush", b, s, 2*c.counts+1, 0, logOf(2*c.counts+1, c.counts))
	}
}

// P6.1: a segment has room for as many as there may be, be they as long as can be.
func TestTheGreatestSegment(t *testing.T) {
	s := store.New(1 << 20)
	b := open(t, s, 400, nil)
	l := slices.Repeat([]record.Record{{Kind: record.Rand, N: record.MostN}}, 800)
	for _, r := range l {
		checkError(t, "Add", b.Add(r), api.OK)
	}
	check(t, "Add", b, s, 800, 0, logged(record.Bytes(l[:400]...), record.Bytes(l[400:]...)))
	open(t, s, 1, l)
}

// P6.1
func TestOpenOfALog(t *testing.T) {
	for _, n := range []int{1, 2, 3, 7, 401} {
		for _, size := range []int{1, 3, 400} {
			text := logOf(n, size)
			s := having(text)
			b := open(t, s, 2, decisions(0, n))
			check(t, "Open", b, s, n, 0, text)
			add(t, b, n, n+3)
			segments := uint64((n + size - 1) / size)
			text += framed(segments, record.Bytes(decisions(n, n+2)...))
			check(t, "Add", b, s, n+2, 1, text)
			checkError(t, "Flush", b.Flush(), api.OK)
			text += framed(segments+1, decision(n+2).Bytes())
			check(t, "Flush", b, s, n+3, 0, text)
			open(t, s, 400, decisions(0, n+3))
		}
	}
}

// P6.1: the next one's number is how many segments there are, not how many decisions.
func TestOpenOfSegmentsWithoutDecisions(t *testing.T) {
	text := logged("", decision(0).Bytes(), "", "")
	s := having(text)
	b := open(t, s, 1, decisions(0, 1))
	check(t, "Open", b, s, 1, 0, text)
	add(t, b, 1, 2)
	check(t, "Add", b, s, 2, 0, text+framed(4, decision(1).Bytes()))
	open(t, s, 1, decisions(0, 2))
}

// torn are bytes behind a log of three segments that aren't its next one.
func torn() []string {
	next := framed(3, "\x0c\x0d")
	l := []string{"x", "Sg\x03\x01", "\x00\x00\x00\x00\x00\x00", framed(2, "\x0c"), framed(4, "\x0c"), "x" + next, strings.Repeat("Sg", 5000)}
	for n := 1; n < len(next); n++ {
		l = append(l, next[:n], next[:n]+"\xee"+next[n:])
	}
	for _, body := range noDecisions {
		l = append(l, framed(3, body), framed(3, body)+framed(4, "\x0c"))
	}
	return l
}

// P6.1
func TestOpenOfATornStore(t *testing.T) {
	ahead := logOf(5, 2)
	for _, behind := range torn() {
		s := having(ahead + behind)
		b := open(t, s, 1, decisions(0, 5))
		check(t, "Open", b, s, 5, 0, ahead)
		add(t, b, 5, 6)
		check(t, "Add", b, s, 6, 0, ahead+framed(3, decision(5).Bytes()))
		open(t, s, 1, decisions(0, 6))
	}
	for _, text := range []string{"x", "Sg", framed(1, "\x0c"), framed(0, "\x80")} {
		s := having(text)
		b := open(t, s, 1, nil)
		check(t, "Open of what is all torn", b, s, 0, 0, "")
	}
}

// P6.1
func TestOpenWithoutPower(t *testing.T) {
	ahead := logOf(5, 2)
	for _, text := range []string{"", ahead} {
		s := having(text)
		s.Arm(0)
		l, _, _ := logbook.Read(text)
		b := open(t, s, 1, l)
		check(t, "Open where nothing is to be cut off", b, s, len(l), 0, text)
		if s.Dead() {
			t.Error("Open asked something of the store")
		}
		for _, behind := range torn() {
			s := having(text + behind)
			s.Arm(0)
			b, l, err := logbook.Open(s, 1)
			if b != nil || len(l) != 0 || err != api.ErrCut {
				t.Errorf("Open of %.80x without power: %v, %v, %d", text+behind, b, l, err)
			}
			if s.Bytes() != text+behind || s.Safe() != s.Len() || !s.Dead() {
				t.Errorf("Open without power left %.80x", s.Bytes())
			}
		}
	}
}

// P6.1: only a Cut is asked of the store, and that where something stands behind.
func TestOpenCutsOnceAtMost(t *testing.T) {
	s := having(logOf(5, 2) + "x")
	s.Arm(1)
	b := open(t, s, 1, decisions(0, 5))
	check(t, "Open", b, s, 5, 0, logOf(5, 2))
	if s.Dead() {
		t.Error("Open asked more than a Cut")
	}
	checkError(t, "Sync behind the one call", s.Sync(), api.ErrCut)
	s = having(logOf(5, 2))
	s.Append("x")
	open(t, s, 1, decisions(0, 5))
	s.Crash(1, "")
	if s.Bytes() != logOf(5, 2) {
		t.Errorf("what was cut off is there: %x", s.Bytes())
	}
}

// wrong are decisions that may not be.
var wrong = []struct {
	r    record.Record
	want api.Errno
}{
	{record.Record{}, api.ErrKind},
	{record.Record{Kind: 5}, api.ErrKind},
	{record.Record{Kind: -1, N: 3}, api.ErrKind},
	{record.Record{Kind: math.MaxInt, N: 3}, api.ErrKind},
	{record.Record{Kind: math.MinInt, N: math.MaxUint64}, api.ErrKind},
	{record.Record{Kind: 0, N: 1 << 62}, api.ErrKind},
	{record.Record{Kind: record.Pick, N: 1 << 62}, api.ErrBig},
	{record.Record{Kind: record.Rand, N: math.MaxUint64}, api.ErrBig},
}

// P6.1, K2
func TestAddOfWhatMayNotBe(t *testing.T) {
	for _, c := range wrong {
		s := store.New(1 << 20)
		b := open(t, s, 3, nil)
		checkError(t, "Add to none", b.Add(c.r), c.want)
		check(t, "Add to none", b, s, 0, 0, "")
		add(t, b, 0, 2)
		checkError(t, "Add as the last of a segment", b.Add(c.r), c.want)
		check(t, "Add as the last of a segment", b, s, 0, 2, "")
		add(t, b, 2, 3)
		check(t, "Add behind that", b, s, 3, 0, logOf(3, 3))
		b = open(t, s, 1, decisions(0, 3))
		checkError(t, "Add to a full log", b.Add(c.r), c.want)
		check(t, "Add to a full log", b, s, 3, 0, logOf(3, 3))
		s.Arm(0)
		checkError(t, "Add without power", b.Add(c.r), c.want)
		if s.Dead() {
			t.Error("Add of what may not be asked something of the store")
		}
	}
}

// P6.1
func TestFlush(t *testing.T) {
	s := store.New(1 << 20)
	b := open(t, s, 400, nil)
	text := ""
	n := 0
	for i, more := range []int{1, 2, 0, 5, 399, 3} {
		add(t, b, n, n+more)
		check(t, "Add", b, s, n, more, text)
		checkError(t, "Flush", b.Flush(), api.OK)
		if more > 0 {
			seq := uint64(i)
			if i > 2 {
				seq-- // behind the Flush of none
			}
			text += framed(seq, record.Bytes(decisions(n, n+more)...))
		}
		n += more
		check(t, "Flush", b, s, n, 0, text)
		checkError(t, "Flush of none", b.Flush(), api.OK)
		check(t, "Flush of none", b, s, n, 0, text)
	}
	checkRead(t, text, decisions(0, n), len(text), 5)
}

// P6.1
func TestFlushOfNoneAsksNothing(t *testing.T) {
	for _, room := range []int{0, 100} {
		s := store.New(room)
		s.Arm(0)
		b := open(t, s, 1, nil)
		checkError(t, "Flush of none", b.Flush(), api.OK)
		check(t, "Flush of none", b, s, 0, 0, "")
		if s.Dead() {
			t.Error("Flush of none asked something of the store")
		}
	}
}

// P6.1
func TestNoRoom(t *testing.T) {
	text := logOf(6, 3)
	for room := range len(text) + 1 {
		s := store.New(room)
		b := open(t, s, 3, nil)
		for i := range 6 {
			want := api.OK
			if i%3 == 2 && room < len(logOf(i+1, 3)) {
				want = api.ErrFull
			}
			checkError(t, "Add", b.Add(decision(i)), want)
			if want == api.OK {
				continue
			}
			sure := i - 2
			if b.Sure() != sure || s.Bytes() != logOf(sure, 3) || s.Safe() != s.Len() {
				t.Errorf("room %d, decision %d: Sure %d, not %d, %x", room, i, b.Sure(), sure, s.Bytes())
			}
			break
		}
	}
}

// P6.1
func TestFlushWithNoRoom(t *testing.T) {
	segment := logOf(2, 2)
	for room := range len(segment) + 2 {
		s := store.New(room)
		b := open(t, s, 400, nil)
		add(t, b, 0, 2)
		if room < len(segment) {
			checkError(t, "Flush with no room", b.Flush(), api.ErrFull)
			if b.Sure() != 0 || s.Len() != 0 {
				t.Errorf("room %d: Sure %d, %x", room, b.Sure(), s.Bytes())
			}
		} else {
			checkError(t, "Flush", b.Flush(), api.OK)
			check(t, "Flush", b, s, 2, 0, segment)
		}
	}
}

// P6.1
func TestFlushWithThePowerCutAtEachCall(t *testing.T) {
	for power := range 7 {
		s := having(logOf(4, 2))
		b := open(t, s, 400, decisions(0, 4))
		s.Arm(power)
		text := logOf(4, 2)
		for i := range 3 {
			add(t, b, 4+2*i, 6+2*i)
			next := logOf(6+2*i, 2)
			if power >= 2*i+2 {
				checkError(t, "Flush", b.Flush(), api.OK)
				check(t, "Flush", b, s, 6+2*i, 0, next)
				text = next
				continue
			}
			checkError(t, "Flush without power", b.Flush(), api.ErrCut)
			bytes := text
			if power == 2*i+1 {
				bytes = next // appended, but not safe
			}
			if b.Sure() != 4+2*i || s.Bytes() != bytes || s.Safe() != len(text) || !s.Dead() {
				t.Errorf("power %d, segment %d: Sure %d, %x, safe %d", power, i, b.Sure(), s.Bytes(), s.Safe())
			}
			break
		}
	}
}

// P6.1
func TestAddWithThePowerCutAtEachCall(t *testing.T) {
	for power := range 3 {
		s := store.New(1 << 20)
		b := open(t, s, 3, nil)
		s.Arm(power)
		add(t, b, 0, 2)
		check(t, "Add", b, s, 0, 2, "")
		want := api.ErrCut
		if power == 2 {
			want = api.OK
		}
		checkError(t, "Add of the last of a segment", b.Add(decision(2)), want)
		if sure := map[int]int{2: 3}[power]; b.Sure() != sure {
			t.Errorf("power %d: Sure %d, not %d", power, b.Sure(), sure)
		}
		if s.Dead() != (power < 2) {
			t.Errorf("power %d: dead: %t", power, s.Dead())
		}
	}
}

// P1: a Book that no Open made.
func TestAZeroBook(t *testing.T) {
	var b logbook.Book
	checkError(t, "Flush of none", b.Flush(), api.OK)
	if b.Sure() != 0 || b.Waiting() != 0 {
		t.Errorf("Sure %d, Waiting %d", b.Sure(), b.Waiting())
	}
	checkError(t, "Add of what may not be", b.Add(record.Record{}), api.ErrKind)
	checkError(t, "Add", b.Add(decision(0)), api.ErrFull)
	if b.Sure() != 0 {
		t.Errorf("Sure %d", b.Sure())
	}
}

// K3
func TestWhatOpenAnswersIsTheCallersOwn(t *testing.T) {
	s := having(logOf(5, 2))
	b, l, _ := logbook.Open(s, 2)
	clear(l)
	add(t, b, 5, 7)
	check(t, "Add", b, s, 7, 0, logOf(4, 2)+framed(2, decision(4).Bytes())+framed(3, record.Bytes(decisions(5, 7)...)))
	b, l, _ = logbook.Open(s, 2)
	add(t, b, 7, 20)
	if !slices.Equal(l, decisions(0, 7)) {
		t.Errorf("the decisions became %v", l)
	}
}

// K4
func TestBooksShareNothing(t *testing.T) {
	one, other := store.New(1000), store.New(1000)
	a, b := open(t, one, 3, nil), open(t, other, 2, nil)
	add(t, a, 0, 4)
	add(t, b, 0, 1)
	check(t, "one", a, one, 3, 1, logOf(3, 3))
	check(t, "another", b, other, 0, 1, "")
	add(t, b, 1, 5)
	check(t, "one", a, one, 3, 1, logOf(3, 3))
	check(t, "another", b, other, 4, 1, logOf(4, 2))
}

// P6.1: the chapter's example.
func TestExample(t *testing.T) {
	s := store.New(100)
	b := open(t, s, 1, nil)
	checkError(t, "Add", b.Add(record.Record{Kind: record.Pick, N: 3}), api.OK)
	check(t, "Add", b, s, 1, 0, framed(0, "\x0c"))
}
