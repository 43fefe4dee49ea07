package journal_test

import (
	"encoding/binary"
	"fmt"
	"hash/crc32"
	"math"
	"math/rand"
	"slices"
	"strings"
	"testing"

	"petrel/api"
	"petrel/block"
	"petrel/journal"
)

// ends are numbers at their ends, and such as would come round, if places were added to them.
var ends = []int{math.MinInt, math.MinInt + 1, math.MinInt + 9, math.MinInt32, -1 << 32, -256, -9, -2, -1, 0, 1, 8, 9, 255, 65536, math.MaxInt32, 1 << 32, 1<<32 + 1, math.MaxInt - 9, math.MaxInt - 1, math.MaxInt}

var (
	gen  = api.Record{K: api.RGen, Body: "\x00\x00\x00\x05"}
	seal = api.Record{K: api.RSeal}
)

// refused are what is no record, each with its error.
var refused = []struct {
	r api.Record
	e api.Errno
}{
	{api.Record{}, api.ErrKind},
	{api.Record{K: api.RNone, Body: "abc"}, api.ErrKind},
	{api.Record{K: 4, Body: "abc"}, api.ErrKind},
	{api.Record{K: -1}, api.ErrKind},
	{api.Record{K: 256 + api.REntry}, api.ErrKind},
	{api.Record{K: 4, Body: text(0, api.MaxRecord+1)}, api.ErrKind},
	{entry(text(0, api.MaxRecord+1)), api.ErrLong},
	{api.Record{K: api.RSeal, Body: text(0, 2*api.MaxRecord)}, api.ErrLong},
}

func entry(body string) api.Record {
	return api.Record{K: api.REntry, Body: body}
}

// text is n bytes of all kinds, others for another from.
func text(from, n int) string {
	l := make([]byte, n)
	for i := range l {
		l[i] = byte((from+i)*31 + (from+i)/256)
	}
	return string(l)
}

// row is the bytes of records, one behind the other.
func row(l []api.Record) string {
	var s []byte
	for _, r := range l {
		s = binary.BigEndian.AppendUint32(s, uint32(len(r.Body)))
		sum := crc32.ChecksumIEEE([]byte(string([]byte{byte(r.K)}) + r.Body))
		s = append(append(s, byte(r.K)), r.Body...)
		s = binary.BigEndian.AppendUint32(s, sum)
	}
	return string(s)
}

// whole is how many of l, one behind the other, stand whole in so many bytes.
func whole(l []api.Record, bytes int) int {
	for i, r := range l {
		bytes -= 9 + len(r.Body)
		if bytes < 0 {
			return i
		}
	}
	return len(l)
}

// told is a Journal as the chapter tells it: its records, and how many of them, from the first one on, are safe.
type told struct {
	l    []api.Record
	safe int
}

func (x *told) append(r api.Record) api.Errno {
	switch {
	case r.K < 1 || r.K > 3:
		return api.ErrKind
	case len(r.Body) > 1<<20:
		return api.ErrLong
	}
	x.l = append(slices.Clone(x.l), r)
	return api.OK
}

func (x *told) sync() int {
	n := len(x.l) - x.safe
	x.safe = len(x.l)
	return n
}

// crash leaves those that stand whole in the first n bytes of what is not safe.
func (x *told) crash(n int) []api.Record {
	x.l = x.l[:x.safe+whole(x.l[x.safe:], max(n, 0))]
	x.safe = len(x.l)
	return x.l
}

// open makes all safe, and changes nothing else: all records are whole.
func (x *told) open() []api.Record {
	x.safe = len(x.l)
	return x.l
}

func show(l []api.Record) string {
	return fmt.Sprintf("%d records, %.200q", len(l), fmt.Sprint(l))
}

// written is a Block with these bytes, of which the first ones are safe.
func written(s string, safe int) *block.Block {
	b := block.New()
	b.Write(s[:safe])
	b.Sync()
	b.Write(s[safe:])
	return b
}

// wantJournal looks at all that j and its file tell, twice: to look changes nothing.
func wantJournal(t *testing.T, name string, j *journal.Journal, b *block.Block, x told) {
	t.Helper()
	all := row(x.l)
	for range 2 {
		if j.Len() != len(x.l) || j.Safe() != x.safe || j.Size() != len(all) {
			t.Errorf("%s: Len %d, Safe %d, Size %d; want %d, %d, %d", name, j.Len(), j.Safe(), j.Size(), len(x.l), x.safe, len(all))
		}
		if tail := len(row(x.l[x.safe:])); b.Data() != all || b.Tail() != tail {
			t.Errorf("%s: the file has %.60x (%d bytes), %d not safe; want %.60x (%d bytes), %d", name, b.Data(), b.Size(), b.Tail(), all, len(all), tail)
		}
	}
}

// wantOpen opens b, which is to tell these records.
func wantOpen(t *testing.T, name string, b *block.Block, l []api.Record) *journal.Journal {
	t.Helper()
	j, got := journal.Open(b)
	if j == nil || !slices.Equal(got, l) {
		t.Fatalf("%s: Open: %t, %s; want %s", name, j != nil, show(got), show(l))
	}
	wantJournal(t, name, j, b, told{l, len(l)})
	return j
}

func wantAppend(t *testing.T, name string, j *journal.Journal, l ...api.Record) {
	t.Helper()
	for _, r := range l {
		if e := j.Append(r); e != api.OK {
			t.Errorf("%s: Append of kind %d, %.20q (%d bytes): %d", name, r.K, r.Body, len(r.Body), e)
		}
	}
}

func wantCrash(t *testing.T, name string, j *journal.Journal, n int, l []api.Record) {
	t.Helper()
	if got := j.Crash(n); !slices.Equal(got, l) {
		t.Errorf("%s: Crash(%d): %s; want %s", name, n, show(got), show(l))
	}
}

// made is a Journal, new in a file of its own, with these records, the first ones of which are safe.
func made(t *testing.T, l []api.Record, safe int) (*journal.Journal, *block.Block) {
	t.Helper()
	b := block.New()
	j := wantOpen(t, "made", b, nil)
	wantAppend(t, "made", j, l[:safe]...)
	j.Sync()
	wantAppend(t, "made", j, l[safe:]...)
	return j, b
}

func TestExample(t *testing.T) {
	j, _ := journal.Open(block.New())
	j.Append(entry("a"))
	j.Sync()
	j.Append(entry("b"))
	if l := j.Crash(0); !slices.Equal(l, []api.Record{entry("a")}) || j.Len() != 1 || j.Safe() != 1 || j.Size() != 10 {
		t.Errorf("Crash(0): %v, Len %d, Safe %d, Size %d", l, j.Len(), j.Safe(), j.Size())
	}
}

func TestBytesWrittenOut(t *testing.T) { // P12.1, P12.2: sums that are reckoned apart
	const first, second = "\x00\x00\x00\x00\x02\x3c\x0c\x8e\xa1", "\x00\x00\x00\x02\x03ab\x22\x5d\x3d\xd9"
	b := block.New()
	j, l := journal.Open(b)
	if j == nil || len(l) != 0 {
		t.Fatalf("Open of no bytes: %t, %v", j != nil, l)
	}
	if e := j.Append(seal); e != api.OK || b.Data() != first || b.Tail() != len(first) {
		t.Errorf("Append: %d, %x, %d not safe", e, b.Data(), b.Tail())
	}
	if n := j.Sync(); n != 1 || b.Data() != first || b.Tail() != 0 {
		t.Errorf("Sync: %d, %x, %d not safe", n, b.Data(), b.Tail())
	}
	if e := j.Append(entry("ab")); e != api.OK || b.Data() != first+second || b.Tail() != len(second) {
		t.Errorf("Append: %d, %x, %d not safe", e, b.Data(), b.Tail())
	}
	if j.Len() != 2 || j.Safe() != 1 || j.Size() != 20 {
		t.Errorf("Len %d, Safe %d, Size %d", j.Len(), j.Safe(), j.Size())
	}
	_, l = journal.Open(written(first+second, 3))
	if !slices.Equal(l, []api.Record{seal, entry("ab")}) {
		t.Errorf("Open: %v", l)
	}
}

func TestOpen(t *testing.T) { // P12.1, P12.4: a file that is cut at each place, the first bytes of which are safe, and the others not: what is left is safe
	l := []api.Record{gen, entry(""), entry(text(0, 40)), seal, entry("abc"), entry(row([]api.Record{seal}))}
	s := row(l)
	for cut := range len(s) + 1 {
		for _, safe := range []int{0, cut / 3, cut - cut%9, max(cut-1, 0), cut} {
			name := fmt.Sprintf("%d bytes, %d of them safe", cut, safe)
			b := written(s[:cut], safe)
			left := l[:whole(l, cut)]
			j := wantOpen(t, name, b, left)
			wantAppend(t, name, j, entry("on"))
			wantJournal(t, name+", and on", j, b, told{append(slices.Clone(left), entry("on")), len(left)})
			wantCrash(t, name, j, 10, left)
			wantJournal(t, name+", and crashed", j, b, told{left, len(left)})
		}
	}
}

func TestOpenOfWhatIsBroken(t *testing.T) { // P12.1: each bit turned: the records ahead of the broken one, whatever stands behind it
	l := []api.Record{gen, entry("abc"), seal, entry("")}
	s := row(l)
	for i := range 8 * len(s) {
		broken := []byte(s)
		broken[i/8] ^= 1 << (i % 8)
		for _, safe := range []int{0, i / 8, len(s)} {
			wantOpen(t, fmt.Sprintf("bit %d turned, %d bytes safe", i, safe), written(string(broken), safe), l[:whole(l, i/8)])
		}
	}
}

func TestOpenOfWhatIsNone(t *testing.T) { // P12.1: behind each row of records, what is none, and records behind that
	l := []api.Record{entry("abc"), seal, gen}
	for n := range len(l) + 1 {
		for _, none := range []string{"\x00", "\x00\x00\x00", "\x00\x00\x00\x00", "\x00\x10\x00\x01", "\xff\xff\xff\xff\xff\xff", strings.Repeat("\x00", 9), strings.Repeat("\x00", 300), row([]api.Record{{K: 4, Body: "abc"}}), row([]api.Record{seal})[:8]} {
			for _, behind := range []string{"", row(l)} {
				if len(none) < 4 && behind != "" {
					behind = "\xff\xff\xff\xff" + behind
				}
				s := row(l[:n]) + none + behind
				for _, safe := range []int{0, len(row(l[:n])), len(s)} {
					wantOpen(t, fmt.Sprintf("%d records and %.20x", n, none), written(s, safe), l[:n])
				}
			}
		}
	}
}

func TestOpenOfNoBlock(t *testing.T) { // P12.1
	for name, b := range map[string]*block.Block{"nil": nil, "zero": {}, "new": new(block.Block)} {
		if j, l := journal.Open(b); j != nil || len(l) != 0 {
			t.Errorf("Open of %s: %t, %v", name, j != nil, l)
		}
	}
}

func TestAppend(t *testing.T) { // P12.2: all kinds, lengths at their ends, behind the others, and not safe
	for _, ahead := range []told{{}, {[]api.Record{gen}, 1}, {[]api.Record{gen}, 0}, {[]api.Record{gen, entry("x"), seal}, 2}} {
		for _, k := range []int{api.RGen, api.RSeal, api.REntry} {
			for _, n := range []int{0, 1, 4, 9, 255, 256, 65535, 65536, api.MaxRecord - 1, api.MaxRecord} {
				r := api.Record{K: k, Body: text(k, n)}
				j, b := made(t, ahead.l, ahead.safe)
				wantAppend(t, "Append", j, r)
				all := append(slices.Clone(ahead.l), r)
				wantJournal(t, "appended", j, b, told{all, ahead.safe})
				wantOpen(t, "opened again", b, all)
			}
		}
	}
}

func TestAppendOfWhatIsNone(t *testing.T) { // P12.2, P2: record.Put's error, and nothing has changed
	for _, ahead := range []told{{}, {[]api.Record{gen}, 1}, {[]api.Record{gen, entry("x"), seal}, 2}} {
		j, b := made(t, ahead.l, ahead.safe)
		for _, x := range refused {
			if e := j.Append(x.r); e != x.e {
				t.Errorf("Append of kind %d, %d bytes: %d; want %d", x.r.K, len(x.r.Body), e, x.e)
			}
			wantJournal(t, "refused", j, b, ahead)
		}
		if n := j.Sync(); n != len(ahead.l)-ahead.safe {
			t.Errorf("Sync behind what was refused: %d", n)
		}
		wantAppend(t, "behind what was refused", j, seal)
		wantJournal(t, "behind what was refused", j, b, told{append(slices.Clone(ahead.l), seal), len(ahead.l)})
	}
}

func TestSync(t *testing.T) { // P12.2: how many were not safe, and from then on all are
	var l []api.Record
	for i := range 12 {
		l = append(l, entry(text(i, i*i)))
	}
	for all := range len(l) + 1 {
		for safe := range all + 1 {
			name := fmt.Sprintf("%d records, %d of them safe", all, safe)
			j, b := made(t, l[:all], safe)
			wantJournal(t, name, j, b, told{l[:all], safe})
			if n := j.Sync(); n != all-safe {
				t.Errorf("%s: Sync: %d", name, n)
			}
			wantJournal(t, name+", made safe", j, b, told{l[:all], all})
			if n := j.Sync(); n != 0 {
				t.Errorf("%s: Sync again: %d", name, n)
			}
			wantCrash(t, name, j, 0, l[:all])
			wantJournal(t, name+", made safe, and crashed", j, b, told{l[:all], all})
		}
	}
}

func TestCrash(t *testing.T) { // P12.2, P12.4: at each byte of what is not safe, and past both ends: all that is left is safe, and goes on
	l := []api.Record{gen, entry("abc"), entry(""), seal, entry(text(0, 30))}
	for safe := range len(l) + 1 {
		tail := len(row(l[safe:]))
		places := slices.Clone(ends)
		for n := -3; n <= tail+3; n++ {
			places = append(places, n)
		}
		for _, n := range places {
			name := fmt.Sprintf("%d safe, Crash(%d)", safe, n)
			j, b := made(t, l, safe)
			left := l[:safe+whole(l[safe:], max(n, 0))]
			wantCrash(t, name, j, n, left)
			wantJournal(t, name, j, b, told{left, len(left)})
			if got := j.Sync(); got != 0 {
				t.Errorf("%s: Sync: %d", name, got)
			}
			on := append(slices.Clone(left), seal, entry("on"))
			wantAppend(t, name, j, seal, entry("on"))
			wantJournal(t, name+", and on", j, b, told{on, len(left)})
			wantCrash(t, name+", and on", j, 9+10, on[:len(on)-1])
			wantJournal(t, name+", and crashed", j, b, told{on[:len(on)-1], len(on) - 1})
			wantOpen(t, name+", and opened", b, on[:len(on)-1])
		}
	}
}

// step is a call: a(ppend), s(ync), a crash (!), or o(pen): the file is opened again.
type step struct {
	k byte
	r api.Record
	n int
}

// files is a Journal, its file, and what they are to be.
type files struct {
	j *journal.Journal
	b *block.Block
	x told
}

// does makes the call on both, and tells whether they answer the same.
func (f *files) does(p step) bool {
	switch p.k {
	case 'a':
		return f.j.Append(p.r) == f.x.append(p.r)
	case 's':
		return f.j.Sync() == f.x.sync()
	case '!':
		return slices.Equal(f.j.Crash(p.n), f.x.crash(p.n))
	}
	j, l := journal.Open(f.b)
	f.j = j
	return j != nil && slices.Equal(l, f.x.open())
}

// wantSteps makes all calls, one behind the other, and looks at each.
func wantSteps(t *testing.T, name string, steps []step) {
	t.Helper()
	f := files{b: block.New()}
	f.j, _ = journal.Open(f.b)
	for i, p := range steps {
		same := f.does(p)
		at := fmt.Sprintf("%s, step %d (%c %d %.20q %d)", name, i, p.k, p.r.K, p.r.Body, p.n)
		if !same {
			t.Errorf("%s: another answer", at)
		}
		wantJournal(t, at, f.j, f.b, f.x)
		if t.Failed() {
			return
		}
	}
}

func TestAllSteps(t *testing.T) { // P12.1, P12.2: all rows of five calls
	kinds := []step{{k: 'a', r: entry("abc")}, {k: 'a', r: seal}, {k: 'a'}, {k: 's'}, {k: 'o'}, {k: '!', n: -1}, {k: '!', n: 11}, {k: '!', n: 12}, {k: '!', n: 1000}}
	rows := 1
	for range 5 {
		rows *= len(kinds)
	}
	for row := range rows {
		var l []step
		for i := row; len(l) < 5; i /= len(kinds) {
			l = append(l, kinds[i%len(kinds)])
		}
		wantSteps(t, fmt.Sprint("row ", row), l)
		if t.Failed() {
			return
		}
	}
}

// chosen is a call by chance.
func chosen(c *rand.Rand) step {
	switch c.Intn(12) {
	case 0, 1:
		return step{k: 's'}
	case 2, 3:
		return step{k: '!', n: c.Intn(200) - 10}
	case 4:
		return step{k: '!', n: ends[c.Intn(len(ends))]}
	case 5:
		return step{k: 'o'}
	case 6:
		return step{k: 'a', r: refused[c.Intn(len(refused))].r}
	}
	return step{k: 'a', r: api.Record{K: 1 + c.Intn(3), Body: text(c.Intn(1000), c.Intn(1+c.Intn(60)))}}
}

func TestStepsOfChance(t *testing.T) { // P12.1, P12.2: the same in each run
	c := rand.New(rand.NewSource(12))
	for row := range 300 {
		var l []step
		for range 200 {
			l = append(l, chosen(c))
		}
		wantSteps(t, fmt.Sprint("row ", row), l)
		if t.Failed() {
			return
		}
	}
}

func TestWhatIsSafeStays(t *testing.T) { // P12.4: what a crash leaves begins all that was appended since the last one, and is begun by all that was safe
	c := rand.New(rand.NewSource(4))
	for range 300 {
		b := block.New()
		j, all := journal.Open(b)
		safe := 0
		for range 100 {
			switch c.Intn(4) {
			case 0:
				if n := j.Sync(); n != len(all)-safe {
					t.Fatalf("Sync: %d; want %d", n, len(all)-safe)
				}
				safe = len(all)
			case 1:
				l := j.Crash(c.Intn(60) - 10)
				if len(l) < safe || len(l) > len(all) || !slices.Equal(l, all[:len(l)]) {
					t.Fatalf("Crash: %s; of %s, %d of them safe", show(l), show(all), safe)
				}
				all, safe = slices.Clone(l), len(l)
			default:
				r := entry(text(c.Intn(99), c.Intn(9)))
				wantAppend(t, "appended", j, r)
				all = append(all, r)
			}
			if j.Len() != len(all) || j.Safe() != safe {
				t.Fatalf("Len %d, Safe %d; want %d, %d", j.Len(), j.Safe(), len(all), safe)
			}
		}
		wantOpen(t, "opened again", b, all)
	}
}

func TestFileIsUsedAsItIs(t *testing.T) { // P4, P12.1, P12.2: what the Block is given elsewhere crashes with the rest, and is read with the rest
	b := block.New()
	j := wantOpen(t, "new", b, nil)
	wantAppend(t, "first", j, gen)
	j.Sync()
	b.Write("torn")
	if j.Size() != len(row([]api.Record{gen}))+4 {
		t.Errorf("Size: %d", j.Size())
	}
	wantCrash(t, "torn", j, 4, []api.Record{gen})
	wantJournal(t, "torn", j, b, told{[]api.Record{gen}, 1})
	b.Write(row([]api.Record{seal, entry("a")}))
	wantCrash(t, "written elsewhere", j, 1000, []api.Record{gen, seal, entry("a")})
	wantJournal(t, "written elsewhere", j, b, told{[]api.Record{gen, seal, entry("a")}, 3})
	b.Cut(0)
	wantCrash(t, "cut elsewhere", j, 0, nil)
	wantJournal(t, "cut elsewhere", j, b, told{})
	wantAppend(t, "cut elsewhere", j, seal)
	wantJournal(t, "cut elsewhere, and on", j, b, told{[]api.Record{seal}, 0})
}

func TestAnswersAreTheirOwn(t *testing.T) { // P4: who changes a list that was told changes nothing else
	l := []api.Record{gen, entry("abc"), seal}
	b := written(row(l), 0)
	j, got := journal.Open(b)
	clear(got)
	wantJournal(t, "Open", j, b, told{l, 3})
	first := j.Crash(0)
	second := j.Crash(0)
	clear(first)
	if !slices.Equal(second, l) {
		t.Errorf("Crash: %s", show(second))
	}
	kept := slices.Clone(second)
	wantAppend(t, "on", j, entry("x"), entry("y"))
	wantCrash(t, "on", j, 10, append(slices.Clone(l), entry("x")))
	b.Cut(0)
	wantAppend(t, "anew", j, entry("z"))
	wantCrash(t, "anew", j, 100, []api.Record{entry("z")})
	if !slices.Equal(second, kept) {
		t.Errorf("Crash: it has changed behind: %s", show(second))
	}
}

func TestJournalsAreTheirOwn(t *testing.T) { // P5
	a, fileA := made(t, []api.Record{gen, seal}, 1)
	b, fileB := made(t, []api.Record{entry("b")}, 0)
	if a == b {
		t.Fatal("Open: the same Journal twice")
	}
	wantJournal(t, "a", a, fileA, told{[]api.Record{gen, seal}, 1})
	wantJournal(t, "b", b, fileB, told{[]api.Record{entry("b")}, 0})
	b.Sync()
	wantCrash(t, "a", a, 0, []api.Record{gen})
	wantAppend(t, "b", b, seal)
	wantJournal(t, "a", a, fileA, told{[]api.Record{gen}, 1})
	wantJournal(t, "b", b, fileB, told{[]api.Record{entry("b"), seal}, 1})
}

// wantNothing makes all calls on what is no Journal.
func wantNothing(t *testing.T, name string, j *journal.Journal) {
	t.Helper()
	for _, r := range []api.Record{gen, seal, entry("abc"), {}, {K: 4}, entry(text(0, api.MaxRecord+1))} {
		if e := j.Append(r); e != api.ErrZero {
			t.Errorf("%s: Append of kind %d, %d bytes: %d", name, r.K, len(r.Body), e)
		}
	}
	for _, n := range ends {
		if l := j.Crash(n); len(l) != 0 {
			t.Errorf("%s: Crash(%d): %v", name, n, l)
		}
	}
	if n := j.Sync(); n != 0 || j.Len() != 0 || j.Safe() != 0 || j.Size() != 0 {
		t.Errorf("%s: Sync %d, Len %d, Safe %d, Size %d", name, n, j.Len(), j.Safe(), j.Size())
	}
}

func TestNoJournals(t *testing.T) { // P12.3: ErrZero ahead of what is wrong with the record
	for name, j := range map[string]*journal.Journal{"nil": nil, "zero": {}, "new": new(journal.Journal)} {
		wantNothing(t, name, j)
	}
	j, _ := journal.Open(nil)
	wantNothing(t, "of no Block", j)
}

func TestCopies(t *testing.T) { // P1: no call made them: theirs end, and none panics
	j, _ := made(t, []api.Record{gen, entry("abc"), seal}, 2)
	copied := *j
	for _, n := range ends {
		copied.Append(entry("x"))
		copied.Sync()
		copied.Append(seal)
		copied.Crash(n)
	}
	if n := copied.Len() | copied.Safe() | copied.Size(); n < 0 {
		t.Errorf("a copy: %d", n)
	}
}

func TestManyRecords(t *testing.T) { // P1: a Journal whose file were gone through at each call would not come to its end
	const many = 1 << 17
	b := block.New()
	j := wantOpen(t, "new", b, nil)
	for i := range many {
		wantAppend(t, "many", j, entry("ab"))
		if j.Len() != i+1 || j.Safe() != i/2*2 || j.Size() != (i+1)*11 {
			t.Fatalf("record %d: Len %d, Safe %d, Size %d", i, j.Len(), j.Safe(), j.Size())
		}
		if i%2 == 1 && j.Sync() != 2 {
			t.Fatalf("record %d: Sync", i)
		}
	}
	for range many {
		wantAppend(t, "many", j, seal)
	}
	if l := j.Crash(9*many - 1); len(l) != 2*many-1 || j.Len() != 2*many-1 || j.Safe() != 2*many-1 || j.Size() != 11*many+9*(many-1) {
		t.Errorf("Crash: %d, Len %d, Safe %d, Size %d", len(l), j.Len(), j.Safe(), j.Size())
	}
	if n := b.Tail(); n != 0 {
		t.Errorf("Crash: %d bytes are not safe", n)
	}
}

func TestLongRecords(t *testing.T) { // P1: Bodies at MaxRecord
	var l []api.Record
	for i := range 12 {
		l = append(l, api.Record{K: 1 + i%3, Body: text(i, api.MaxRecord-i%2)})
	}
	j, b := made(t, l, 5)
	wantJournal(t, "long", j, b, told{l, 5})
	wantCrash(t, "long", j, len(row(l[5:]))-1, l[:11])
	wantJournal(t, "long, and crashed", j, b, told{l[:11], 11})
	wantOpen(t, "long, and opened", b, l[:11])
}
