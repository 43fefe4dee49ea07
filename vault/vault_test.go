package vault_test

import (
	"encoding/binary"
	"fmt"
	"hash/crc32"
	"math"
	"math/rand"
	"slices"
	"strings"
	"testing"

	"petrel/api"
	"petrel/vault"
)

// ends are numbers at their ends, and such as would come round, if places were added to them.
var ends = []int{math.MinInt, math.MinInt + 1, math.MinInt + 9, math.MinInt32, -1 << 32, -256, -13, -9, -2, -1, 0, 1, 9, 13, 255, 65536, math.MaxInt32, 1 << 32, 1<<32 + 1, math.MaxInt - 9, math.MaxInt - 1, math.MaxInt}

// numbers are numbers of files: ends of bytes, of what a snapshot may have, and of four bytes.
var numbers = []int{0, 1, 2, 255, 256, 65535, 65536, 1<<24 - 1, 1 << 24, 1<<31 - 3, 1<<31 - 2, 1<<31 - 1, 1 << 31, 1<<31 + 1, 1<<32 - 2, 1<<32 - 1}

// long are lists of texts of which no snapshot can be made, but for the first one.
var long = [][]string{
	{text(0, api.MaxRecord), "", text(1, api.MaxRecord)},
	{text(0, api.MaxRecord+1)},
	{text(0, api.MaxRecord+1), "a"},
	{"a", "b", text(0, api.MaxRecord+1)},
	{"a", text(0, 2*api.MaxRecord), "b", text(0, api.MaxRecord+1)},
}

var seal = api.Record{K: api.RSeal}

func gen(n int) api.Record {
	return api.Record{K: api.RGen, Body: string(binary.BigEndian.AppendUint32(nil, uint32(n)))}
}

func entry(s string) api.Record {
	return api.Record{K: api.REntry, Body: s}
}

// text is n bytes of all kinds, others for another from.
func text(from, n int) string {
	l := make([]byte, n)
	for i := range l {
		l[i] = byte((from+i)*31 + (from+i)/256)
	}
	return string(l)
}

// row is the bytes of records, one behind the other.
func row(l []api.Record) string {
	var s []byte
	for _, r := range l {
		s = binary.BigEndian.AppendUint32(s, uint32(len(r.Body)))
		sum := crc32.ChecksumIEEE([]byte(string([]byte{byte(r.K)}) + r.Body))
		s = append(append(s, byte(r.K)), r.Body...)
		s = binary.BigEndian.AppendUint32(s, sum)
	}
	return string(s)
}

// whole is how many of l, one behind the other, stand whole in so many bytes.
func whole(l []api.Record, bytes int) int {
	for i, r := range l {
		bytes -= 9 + len(r.Body)
		if bytes < 0 {
			return i
		}
	}
	return len(l)
}

// taken is a snapshot's records.
func taken(number int, l []string) []api.Record {
	records := []api.Record{gen(number)}
	for _, s := range l {
		records = append(records, entry(s))
	}
	return append(records, seal)
}

// told is a Vault as the chapter tells it: the records of both files, and how many of them are safe. Which file is in use stands nowhere: it is what the records say.
type told struct {
	files [2][]api.Record
	safe  [2]int
}

// loaded is told of files all of which is safe.
func loaded(a, b []api.Record) *told {
	return &told{[2][]api.Record{a, b}, [2]int{len(a), len(b)}}
}

// fileNumber is below 0, if the file is not whole.
func fileNumber(l []api.Record) int {
	sealed := slices.ContainsFunc(l, func(r api.Record) bool { return r.K == 2 })
	if !sealed || l[0].K != 1 || len(l[0].Body) != 4 {
		return -1
	}
	return int(binary.BigEndian.Uint32([]byte(l[0].Body)))
}

func (x *told) use() (int, int) {
	a, b := fileNumber(x.files[0]), fileNumber(x.files[1])
	if b > a {
		return 1, b
	}
	return 0, a
}

func (x *told) held() []string {
	i, _ := x.use()
	var l []string
	for _, r := range x.files[i] {
		if r.K == 3 {
			l = append(l, r.Body)
		}
	}
	return l
}

func (x *told) bytes() (string, string) {
	return row(x.files[0]), row(x.files[1])
}

func (x *told) append(s string) api.Errno {
	if len(s) > 1<<20 {
		return api.ErrLong
	}
	i, _ := x.use()
	x.files[i] = append(slices.Clone(x.files[i]), entry(s))
	return api.OK
}

func (x *told) sync() int {
	i, _ := x.use()
	n := len(x.files[i]) - x.safe[i]
	x.safe[i] = len(x.files[i])
	return n
}

// crash leaves those that stand whole in the first n bytes of what is not safe in file i.
func (x *told) crash(i, n int) []string {
	l := x.files[i]
	l = l[:x.safe[i]+whole(l[x.safe[i]:], max(n, 0))]
	x.files[i], x.safe[i] = l, len(l)
	return x.held()
}

// snap is what Snap and Die have alike: of the other file, which it tells, nothing is safe yet.
func (x *told) snap(l []string) (int, api.Errno) {
	i, n := x.use()
	tooLong := slices.ContainsFunc(l, func(s string) bool { return len(s) > 1<<20 })
	if tooLong || n >= 1<<31-1 {
		return 0, api.ErrLong
	}
	x.sync()
	x.files[1-i], x.safe[1-i] = taken(n+1, l), 0
	return 1 - i, api.OK
}

func (x *told) snapSafe(l []string) api.Errno {
	i, e := x.snap(l)
	if e == api.OK {
		x.safe[i] = len(x.files[i])
	}
	return e
}

func (x *told) die(l []string, n int) ([]string, api.Errno) {
	i, e := x.snap(l)
	if e != api.OK {
		return nil, e
	}
	return x.crash(i, n), api.OK
}

func show(l []string) string {
	return fmt.Sprintf("%d texts, %.200q", len(l), fmt.Sprint(l))
}

// wantVault looks at all that v tells, twice: to look changes nothing.
func wantVault(t *testing.T, name string, v *vault.Vault, x *told) {
	t.Helper()
	i, n := x.use()
	a, b := x.bytes()
	for range 2 {
		if use, number := v.Use(); use != i || number != n {
			t.Errorf("%s: Use: %d, %d; want %d, %d", name, use, number, i, n)
		}
		if size := len([]string{a, b}[i]); v.Size() != size {
			t.Errorf("%s: Size: %d; want %d", name, v.Size(), size)
		}
		if first, second := v.Files(); first != a || second != b {
			t.Errorf("%s: Files: %.80x (%d bytes), %.80x (%d bytes); want %.80x (%d bytes), %.80x (%d bytes)", name, first, len(first), second, len(second), a, len(a), b, len(b))
		}
	}
}

// wantLoad loads files of these bytes, of which these records are to be told.
func wantLoad(t *testing.T, name, a, b string, x *told) *vault.Vault {
	t.Helper()
	v, l, e := vault.Load(a, b)
	if v == nil || e != api.OK || !slices.Equal(l, x.held()) {
		t.Fatalf("%s: Load: %t, %s, %d; want %s", name, v != nil, show(l), e, show(x.held()))
	}
	wantVault(t, name, v, x)
	return v
}

func wantNoLoad(t *testing.T, name, a, b string) {
	t.Helper()
	if v, l, e := vault.Load(a, b); v != nil || len(l) != 0 || e != api.ErrForm {
		t.Errorf("%s: Load: %t, %s, %d; want %d", name, v != nil, show(l), e, api.ErrForm)
	}
}

// wantLoadOrNot loads what may be none.
func wantLoadOrNot(t *testing.T, name, a, b string, x *told) {
	t.Helper()
	if _, n := x.use(); n < 0 {
		wantNoLoad(t, name, a, b)
		return
	}
	v := wantLoad(t, name, a, b, x)
	wantOn(t, name, pair{v, x})
}

// pair is a Vault, and what it is to be.
type pair struct {
	v *vault.Vault
	x *told
}

// fresh is a new Vault, and what the chapter says of it.
func fresh() pair {
	return pair{vault.New(), loaded([]api.Record{gen(0), seal}, nil)}
}

// wantOn looks whether all in a file that is told as safe is so, and whether what is written goes on behind it.
func wantOn(t *testing.T, name string, p pair) {
	t.Helper()
	for _, s := range []step{{k: 's'}, {k: 'a', l: []string{"on"}}, {k: '!', n: 10}, {k: 'a', l: []string{"on"}}, {k: 's'}, {k: 'a', l: []string{"and on"}}, {k: '!', n: 0}} {
		wantStep(t, name+", and on", p, s)
	}
}

// step is a call: a(ppend) of the only text of l, s(ync), a crash (!), S(nap), D(ie), or L(oad): what has the files' bytes is loaded as another Vault.
type step struct {
	k byte
	l []string
	n int
}

// does makes the call on both, and tells what they answer (errors by number: their texts are all the same).
func (p *pair) does(s step) (got, want string) {
	switch s.k {
	case 'a':
		return fmt.Sprintf("%d", p.v.Append(s.l[0])), fmt.Sprintf("%d", p.x.append(s.l[0]))
	case 's':
		return fmt.Sprint(p.v.Sync()), fmt.Sprint(p.x.sync())
	case '!':
		i, _ := p.x.use()
		return fmt.Sprintf("%q", p.v.Crash(s.n)), fmt.Sprintf("%q", p.x.crash(i, s.n))
	case 'S':
		return fmt.Sprintf("%d", p.v.Snap(s.l)), fmt.Sprintf("%d", p.x.snapSafe(s.l))
	case 'D':
		l, e := p.v.Die(s.l, s.n)
		m, f := p.x.die(s.l, s.n)
		return fmt.Sprintf("%q %d", l, e), fmt.Sprintf("%q %d", m, f)
	}
	v, l, e := vault.Load(p.v.Files())
	p.v, p.x = v, loaded(p.x.files[0], p.x.files[1])
	return fmt.Sprintf("%q %d", l, e), fmt.Sprintf("%q 0", p.x.held())
}

// wantStep makes the call on both, and looks at all.
func wantStep(t *testing.T, name string, p pair, s step) pair {
	t.Helper()
	got, want := p.does(s)
	at := fmt.Sprintf("%s: %c %.60q %d", name, s.k, s.l, s.n)
	if got != want {
		t.Errorf("%s: %.200s; want %.200s", at, got, want)
	}
	wantVault(t, at, p.v, p.x)
	return p
}

// wantSteps makes all calls on a new Vault, one behind the other.
func wantSteps(t *testing.T, name string, steps []step) {
	t.Helper()
	p := fresh()
	for i, s := range steps {
		p = wantStep(t, fmt.Sprintf("%s, step %d", name, i), p, s)
		if t.Failed() {
			return
		}
	}
}

func TestExample(t *testing.T) {
	v := vault.New()
	v.Append("a")
	v.Sync()
	v.Append("b")
	if l := v.Crash(0); !slices.Equal(l, []string{"a"}) {
		t.Errorf("Crash(0): %q", l)
	}
}

func TestBytesWrittenOut(t *testing.T) { // P13.1 to P13.4: sums that are reckoned apart
	const (
		gen0   = "\x00\x00\x00\x04\x01\x00\x00\x00\x00\xfb\x42\xde\xad"
		gen1   = "\x00\x00\x00\x04\x01\x00\x00\x00\x01\x8c\x45\xee\x3b"
		sealed = "\x00\x00\x00\x00\x02\x3c\x0c\x8e\xa1"
		ab     = "\x00\x00\x00\x02\x03ab\x22\x5d\x3d\xd9"
	)
	v := vault.New()
	if a, b := v.Files(); a != gen0+sealed || b != "" {
		t.Errorf("New: %x, %x", a, b)
	}
	if e := v.Append("ab"); e != api.OK || v.Size() != 33 {
		t.Errorf("Append: %d, Size %d", e, v.Size())
	}
	if a, b := v.Files(); a != gen0+sealed+ab || b != "" {
		t.Errorf("Append: %x, %x", a, b)
	}
	if n := v.Sync(); n != 1 {
		t.Errorf("Sync: %d", n)
	}
	if e := v.Snap([]string{"ab", "ab"}); e != api.OK || v.Size() != 44 {
		t.Errorf("Snap: %d, Size %d", e, v.Size())
	}
	if a, b := v.Files(); a != gen0+sealed+ab || b != gen1+ab+ab+sealed {
		t.Errorf("Snap: %x, %x", a, b)
	}
	if i, n := v.Use(); i != 1 || n != 1 {
		t.Errorf("Use: %d, %d", i, n)
	}
}

func TestNew(t *testing.T) { // P13.1: all is safe
	p := fresh()
	wantVault(t, "New", p.v, p.x)
	wantOn(t, "New", p)
	for _, n := range ends {
		p := wantStep(t, "New", fresh(), step{k: '!', n: n})
		wantOn(t, "New, and crashed", p)
	}
	if vault.New() == vault.New() {
		t.Error("New: the same Vault twice")
	}
}

// files are records of files that are whole, and of such as are not, or not quite.
func files() [][]api.Record {
	rgen := func(body string) api.Record { return api.Record{K: api.RGen, Body: body} }
	return [][]api.Record{
		nil,
		{gen(3)},
		{seal},
		{entry("a")},
		{gen(3), seal},
		{gen(4), seal},
		{gen(3), entry("a"), seal, entry("b")},
		{gen(3), entry("c"), entry(""), entry("c"), seal},
		{gen(4), seal, entry("d")},
		{gen(9), entry("e"), entry("f")},
		{seal, gen(9)},
		{seal, gen(9), seal},
		{entry("g"), gen(9), seal},
		{rgen(""), seal},
		{rgen("\x00\x00\x09"), entry("h"), seal},
		{rgen("\x00\x00\x00\x00\x09"), entry("h"), seal},
		{rgen("\x00\x00\x00\x09\x00\x00\x00\x09"), seal},
		{rgen("\x00"), gen(9), entry("h"), seal},
		{entry("\x00\x00\x00\x09"), seal},
		{{K: api.RSeal, Body: "\x00\x00\x00\x09"}, seal},
		{gen(2), gen(9), entry("i"), seal, gen(10)},
		{gen(2), rgen(""), entry("j"), seal, seal, entry("k")},
		{gen(4), entry("l"), {K: api.RSeal, Body: "sealed"}, entry("m"), {K: api.RSeal, Body: "\x00\x00\x00\x09"}},
		{gen(0), seal},
		{gen(0), entry("n"), seal},
		{gen(1 << 31), entry("o"), seal, entry("p")},
	}
}

func TestLoad(t *testing.T) { // P13.1: all pairs of files
	l := files()
	for i, a := range l {
		for k, b := range l {
			wantLoadOrNot(t, fmt.Sprintf("files %d and %d", i, k), row(a), row(b), loaded(a, b))
		}
	}
}

func TestLoadOfWhatIsTorn(t *testing.T) { // P13.1: one file is cut at each place, whatever the other one is
	torn := []api.Record{gen(5), entry("abc"), entry(""), seal, entry("d"), entry(row([]api.Record{seal}))}
	s := row(torn)
	for _, other := range [][]api.Record{nil, {gen(6)}, {gen(4), entry("x"), seal}, {gen(5), entry("x"), seal}, {gen(6), entry("x"), seal}} {
		for cut := range len(s) + 1 {
			left := torn[:whole(torn, cut)]
			name := fmt.Sprintf("%d bytes beside %v", cut, other)
			wantLoadOrNot(t, name, s[:cut], row(other), loaded(left, other))
			wantLoadOrNot(t, name, row(other), s[:cut], loaded(other, left))
		}
	}
}

func TestLoadOfWhatIsBroken(t *testing.T) { // P13.1: each bit turned: what stands ahead of the broken record counts, and all behind is cut off
	broken := []api.Record{gen(5), entry("abc"), seal, entry("")}
	s := row(broken)
	for _, other := range [][]api.Record{nil, {gen(4), entry("x"), seal}, {gen(6), entry("x"), seal}} {
		for i := range 8 * len(s) {
			turned := []byte(s)
			turned[i/8] ^= 1 << (i % 8)
			left := broken[:whole(broken, i/8)]
			name := fmt.Sprintf("bit %d turned beside %v", i, other)
			wantLoadOrNot(t, name, string(turned), row(other), loaded(left, other))
			wantLoadOrNot(t, name, row(other), string(turned), loaded(other, left))
		}
	}
}

func TestLoadOfWhatStandsBehind(t *testing.T) { // P13.1: it is cut off in both files
	a, b := []api.Record{gen(5), entry("abc"), seal}, []api.Record{gen(6), entry("def"), seal}
	for _, none := range []string{"\x00", "\x00\x00\x00\x00", "\x00\x10\x00\x01" + row(a), "\xff\xff\xff\xff" + row(b), strings.Repeat("\x00", 300), row([]api.Record{{K: 4, Body: "abc"}, entry("x")}), row(a)[:12]} {
		for _, other := range []string{"", none, "\x00\x00\x00"} {
			name := fmt.Sprintf("%.20x and %.20x", none, other)
			wantLoadOrNot(t, name, row(a)+none, row(b)+other, loaded(a, b))
			wantLoadOrNot(t, name, row(b)+other, row(a)+none, loaded(b, a))
			wantLoadOrNot(t, name, row(b)+other, none, loaded(b, nil))
			wantNoLoad(t, name, none+row(a), other)
		}
	}
}

func TestNumbers(t *testing.T) { // P13.1, P13.3, P13.4: the greater one is in use, file 0 of two alike; no snapshot's file has more than 2^31 - 1
	for _, m := range append(numbers, -1) {
		for _, n := range append(numbers, -1) {
			a, b := []api.Record{gen(m), entry("a"), seal}, []api.Record{gen(n), entry("b"), seal}
			if m < 0 {
				a = nil
			}
			if n < 0 {
				b = nil
			}
			name := fmt.Sprintf("numbers %d and %d", m, n)
			wantLoadOrNot(t, name, row(a), row(b), loaded(a, b))
			if m < 0 && n < 0 {
				continue
			}
			for _, s := range []step{{k: 'S', l: []string{"c"}}, {k: 'D', l: []string{"c"}, n: 1000}, {k: 'D', l: []string{"c"}, n: 31}} {
				p := pair{wantLoad(t, name, row(a), row(b), loaded(a, b)), loaded(a, b)}
				wantStep(t, name, p, step{k: 'a', l: []string{"on"}})
				for range 3 {
					wantStep(t, name, p, s)
				}
				wantOn(t, name, p)
			}
		}
	}
}

func TestAppend(t *testing.T) { // P13.2: lengths at their ends, behind the others, in the file in use, and not safe
	for _, n := range []int{0, 1, 4, 9, 255, 256, 65535, 65536, api.MaxRecord - 1, api.MaxRecord, api.MaxRecord + 1, 2 * api.MaxRecord} {
		for _, ahead := range [][]step{nil, {{k: 'a', l: []string{"x"}}}, {{k: 'a', l: []string{"x"}}, {k: 'S', l: []string{"y"}}}, {{k: 'S'}, {k: 'S', l: []string{"z"}}, {k: 'a', l: []string{""}}, {k: 's'}}} {
			p := fresh()
			for _, s := range append(ahead, step{k: 'a', l: []string{text(n, n)}}) {
				wantStep(t, fmt.Sprintf("%d bytes", n), p, s)
			}
			a, b := p.x.bytes()
			wantLoad(t, "loaded", a, b, p.x)
			wantOn(t, fmt.Sprintf("%d bytes", n), p)
		}
	}
}

// made is a Vault with so many texts in the file in use, which is file 0 or 1, the first ones of which are safe.
func made(t *testing.T, file, all, safe int) pair {
	t.Helper()
	p := fresh()
	for range file {
		wantStep(t, "made", p, step{k: 'S', l: []string{"of a snapshot"}})
	}
	for i := range all {
		if i == safe {
			wantStep(t, "made", p, step{k: 's'})
		}
		wantStep(t, "made", p, step{k: 'a', l: []string{text(i, i)}})
	}
	if all == safe {
		wantStep(t, "made", p, step{k: 's'})
	}
	return p
}

func TestSync(t *testing.T) { // P13.2: how many were not safe, and from then on all are
	for file := range 2 {
		for all := range 9 {
			for safe := range all + 1 {
				p := made(t, file, all, safe)
				for _, s := range []step{{k: 's'}, {k: 's'}, {k: '!', n: 0}} {
					wantStep(t, fmt.Sprintf("%d texts, %d of them safe", all, safe), p, s)
				}
			}
		}
	}
}

func TestCrash(t *testing.T) { // P13.2, P13.6: at each byte of what is not safe, and past both ends
	const all = 5
	for file := range 2 {
		for safe := range all + 1 {
			tail := (all - safe) * 9
			for i := safe; i < all; i++ {
				tail += i
			}
			places := slices.Clone(ends)
			for n := -2; n <= tail+2; n++ {
				places = append(places, n)
			}
			for _, n := range places {
				name := fmt.Sprintf("file %d, %d safe", file, safe)
				p := wantStep(t, name, made(t, file, all, safe), step{k: '!', n: n})
				wantOn(t, name, p)
			}
		}
	}
}

func TestSnap(t *testing.T) { // P13.3: into each file, of many lists, beside what is not safe
	for _, l := range [][]string{nil, {}, {""}, {"a"}, {"a", "a"}, {"b", "", "a"}, {row([]api.Record{gen(9), seal})}, {text(0, 300), text(5, 70000)}, long[0]} {
		for file := range 2 {
			for safe := range 4 {
				name := fmt.Sprintf("Snap of %s into the other of file %d", show(l), file)
				p := wantStep(t, name, made(t, file, 3, safe), step{k: 'S', l: l})
				a, b := p.x.bytes()
				wantLoad(t, name+", loaded", a, b, p.x)
				wantStep(t, name, p, step{k: '!', n: 0})
				wantOn(t, name, p)
			}
		}
	}
}

func TestSnapMakesTheFileInUseSafe(t *testing.T) { // P13.3: it is in use again, if the other one is torn
	p := made(t, 0, 3, 1)
	for _, s := range []step{{k: 'D', l: []string{"x"}, n: 0}, {k: '!', n: 0}, {k: 'a', l: []string{"y"}}, {k: 'D', l: []string{"x"}, n: 31}, {k: 's'}, {k: '!', n: 0}} {
		wantStep(t, "torn", p, s)
	}
	if want := []string{text(0, 0), text(1, 1), text(2, 2), "y"}; !slices.Equal(p.x.held(), want) {
		t.Errorf("held: %q; want %q", p.x.held(), want)
	}
}

func TestDie(t *testing.T) { // P13.3, P13.6: at each byte of the snapshot, and past both ends: all of it, or all that was there
	for _, l := range [][]string{nil, {""}, {"a", "bc"}, {row([]api.Record{gen(9), seal})}} {
		places := slices.Clone(ends)
		size := len(row(taken(0, l)))
		for n := -2; n <= size+2; n++ {
			places = append(places, n)
		}
		for _, n := range places {
			for file := range 3 {
				name := fmt.Sprintf("%d snapshots ahead", file)
				p := made(t, file, 3, 1)
				old := p.x.held()
				wantStep(t, name, p, step{k: 'D', l: l, n: n})
				want, i := old, file%2
				if n >= size {
					want, i = l, 1-i
				}
				if use, _ := p.v.Use(); use != i || !slices.Equal(p.x.held(), want) {
					t.Errorf("%s: Die(%q, %d): file %d, %q; want file %d, %q", name, l, n, use, p.x.held(), i, want)
				}
				wantOn(t, name, p)
				wantStep(t, name, p, step{k: 'S', l: []string{"again"}})
				wantOn(t, name+", again", p)
			}
		}
	}
}

func TestWhatIsTooLong(t *testing.T) { // P13.2, P13.3, P2: nothing has changed: nothing is safe that was not
	for _, l := range long[1:] {
		for file := range 2 {
			p := made(t, file, 3, 1)
			before := *p.x
			for _, s := range []step{{k: 'S', l: l}, {k: 'D', l: l, n: 1 << 30}, {k: 'D', l: l, n: 0}, {k: 'a', l: []string{text(0, api.MaxRecord+1)}}} {
				wantStep(t, "too long", p, s)
				if p.x.files[file][len(p.x.files[file])-1] != before.files[file][len(before.files[file])-1] || p.x.safe != before.safe {
					t.Errorf("%c: something has changed", s.k)
				}
			}
			wantStep(t, "too long", p, step{k: 's'})
			wantOn(t, "too long", p)
		}
	}
}

func TestNumberIsTooGreat(t *testing.T) { // P13.3, P2: likewise
	for _, n := range []int{1<<31 - 1, 1 << 31, 1<<32 - 1} {
		for _, l := range [][]string{nil, {"a"}, {text(0, api.MaxRecord+1)}} {
			a := []api.Record{gen(n), entry("a"), seal, entry("b")}
			for file := range 2 {
				x := loaded(a, []api.Record{gen(1), seal})
				if file == 1 {
					x = loaded([]api.Record{gen(1), seal}, a)
				}
				first, second := x.bytes()
				p := pair{wantLoad(t, "too great", first, second, x), x}
				for _, s := range []step{{k: 'a', l: []string{"c"}}, {k: 'S', l: l}, {k: 'D', l: l, n: 1000}, {k: 'D', l: l, n: 0}} {
					wantStep(t, "too great", p, s)
				}
				if x.safe[file] != 4 || len(x.files[1-file]) != 2 {
					t.Errorf("number %d: something has changed", n)
				}
				wantStep(t, "too great", p, step{k: 's'})
				wantOn(t, "too great", p)
			}
		}
	}
}

func TestAllSteps(t *testing.T) { // P13.1 to P13.4: all rows of five calls
	l := []string{"c", "de"}
	kinds := []step{{k: 'a', l: []string{"ab"}}, {k: 's'}, {k: '!', n: 0}, {k: '!', n: 11}, {k: '!', n: 1000}, {k: 'S'}, {k: 'S', l: l}, {k: 'D', l: l, n: 42}, {k: 'D', l: l, n: 43}, {k: 'L'}}
	rows := 1
	for range 5 {
		rows *= len(kinds)
	}
	for row := range rows {
		var steps []step
		for i := row; len(steps) < 5; i /= len(kinds) {
			steps = append(steps, kinds[i%len(kinds)])
		}
		wantSteps(t, fmt.Sprint("row ", row), steps)
		if t.Failed() {
			return
		}
	}
}

// texts are some texts by chance; seldom one of them is too long.
func texts(c *rand.Rand) []string {
	var l []string
	for range c.Intn(6) {
		l = append(l, text(c.Intn(1000), c.Intn(1+c.Intn(40))))
	}
	if c.Intn(40) == 0 {
		l = append(l, long[1][0], "behind it")
	}
	return l
}

// place is where a crash may stop, by chance.
func place(c *rand.Rand) int {
	if c.Intn(4) == 0 {
		return ends[c.Intn(len(ends))]
	}
	return c.Intn(150) - 10
}

// chosen is a call by chance.
func chosen(c *rand.Rand) step {
	switch c.Intn(12) {
	case 0, 1:
		return step{k: 's'}
	case 2:
		return step{k: '!', n: place(c)}
	case 3:
		return step{k: 'S', l: texts(c)}
	case 4:
		return step{k: 'D', l: texts(c), n: place(c)}
	case 5:
		return step{k: 'L'}
	}
	return step{k: 'a', l: append(texts(c), "of none")[:1]}
}

func TestStepsOfChance(t *testing.T) { // P13.1 to P13.4: the same in each run
	c := rand.New(rand.NewSource(13))
	for row := range 300 {
		var steps []step
		for range 100 {
			steps = append(steps, chosen(c))
		}
		wantSteps(t, fmt.Sprint("row ", row), steps)
		if t.Failed() {
			return
		}
	}
}

// begins tells whether l begins all, and is begun by its first safe ones.
func begins(l, all []string, safe int) bool {
	return safe <= len(l) && len(l) <= len(all) && slices.Equal(l, all[:len(l)])
}

func TestWhatIsSafeStays(t *testing.T) { // P13.6: nothing of how files look plays a part here
	c := rand.New(rand.NewSource(6))
	for range 300 {
		v := vault.New()
		var all []string
		safe := 0
		for range 60 {
			switch c.Intn(8) {
			case 0:
				v.Sync()
				safe = len(all)
			case 1:
				l := v.Crash(c.Intn(60) - 10)
				if !begins(l, all, safe) {
					t.Fatalf("Crash: %s; of %s, %d of them safe", show(l), show(all), safe)
				}
				all, safe = l, len(l)
			case 2:
				l := []string{fmt.Sprint("snapshot ", c.Intn(99))}
				if e := v.Snap(l); e != api.OK {
					t.Fatalf("Snap: %d", e)
				}
				all, safe = l, len(l)
			case 3:
				l := []string{fmt.Sprint("snapshot ", c.Intn(99)), "and on"}
				got, e := v.Die(l, c.Intn(80)-10)
				if e != api.OK || !slices.Equal(got, l) && !slices.Equal(got, all) {
					t.Fatalf("Die: %s, %d; want %s, or %s", show(got), e, show(all), show(l))
				}
				all, safe = got, len(got)
			default:
				all = append(slices.Clone(all), text(c.Intn(99), c.Intn(9)))
				if e := v.Append(all[len(all)-1]); e != api.OK {
					t.Fatalf("Append: %d", e)
				}
			}
		}
		if _, l, e := vault.Load(v.Files()); e != api.OK || !slices.Equal(l, all) {
			t.Fatalf("Load: %s, %d; want %s", show(l), e, show(all))
		}
	}
}

func TestListsAreTheirOwn(t *testing.T) { // P4: who changes a list that was told, or handed in, changes nothing else
	p := fresh()
	l := []string{"a", "b", "c"}
	wantStep(t, "list", p, step{k: 'S', l: l})
	clear(l)
	wantVault(t, "Snap", p.v, p.x)
	l = []string{"d", "e", "behind"}[:2]
	got, _ := p.v.Die(l, 1000)
	p.x.die([]string{"d", "e"}, 1000)
	if !slices.Equal(l, []string{"d", "e"}) || l[:3][2] != "behind" {
		t.Errorf("Die: the list has changed: %q", l[:3])
	}
	clear(l)
	clear(got)
	wantVault(t, "Die", p.v, p.x)
	first := p.v.Crash(0)
	second := p.v.Crash(0)
	clear(first)
	a, b := p.v.Files()
	_, third, _ := vault.Load(a, b)
	for i := range 3 {
		p.v.Append(fmt.Sprint("x", i))
	}
	p.v.Sync()
	p.v.Snap([]string{"y"})
	p.v.Snap(nil)
	for _, l := range [][]string{second, third} {
		if !slices.Equal(l, []string{"d", "e"}) {
			t.Errorf("it has changed behind: %q", l)
		}
	}
}

func TestVaultsAreTheirOwn(t *testing.T) { // P5
	a, b := made(t, 0, 3, 1), made(t, 1, 2, 2)
	other := pair{wantLoad(t, "loaded", row(a.x.files[0]), row(a.x.files[1]), a.x), loaded(a.x.files[0], a.x.files[1])}
	for _, s := range []step{{k: 'a', l: []string{"x"}}, {k: 'D', l: []string{"y"}, n: 5}, {k: 'S', l: []string{"z"}}, {k: '!', n: 0}, {k: 'a', l: []string{"w"}}} {
		wantStep(t, "a", a, s)
		wantVault(t, "b", b.v, b.x)
		wantVault(t, "other", other.v, other.x)
		wantStep(t, "b", b, s)
		wantVault(t, "a", a.v, a.x)
		wantVault(t, "other", other.v, other.x)
	}
	wantOn(t, "other", other)
}

// wantNothing makes all calls on what is no Vault.
func wantNothing(t *testing.T, name string, v *vault.Vault) {
	t.Helper()
	for _, s := range []string{"", "abc", long[1][0]} {
		if e := v.Append(s); e != api.ErrZero {
			t.Errorf("%s: Append of %d bytes: %d", name, len(s), e)
		}
	}
	for _, l := range append(long, nil, []string{"a", "b"}) {
		if e := v.Snap(l); e != api.ErrZero {
			t.Errorf("%s: Snap of %d texts: %d", name, len(l), e)
		}
		if got, e := v.Die(l, 1000); e != api.ErrZero || len(got) != 0 {
			t.Errorf("%s: Die of %d texts: %q, %d", name, len(l), got, e)
		}
	}
	for _, n := range ends {
		if l := v.Crash(n); len(l) != 0 {
			t.Errorf("%s: Crash(%d): %q", name, n, l)
		}
		if l, e := v.Die(nil, n); len(l) != 0 || e != api.ErrZero {
			t.Errorf("%s: Die(%d): %q, %d", name, n, l, e)
		}
	}
	i, number := v.Use()
	if n := v.Sync(); n != 0 || i != 0 || number != 0 || v.Size() != 0 {
		t.Errorf("%s: Sync %d, Use %d, %d, Size %d", name, n, i, number, v.Size())
	}
	if a, b := v.Files(); a != "" || b != "" {
		t.Errorf("%s: Files: %q, %q", name, a, b)
	}
}

func TestNoVaults(t *testing.T) { // P13.5: ErrZero ahead of what is wrong with the arguments
	for name, v := range map[string]*vault.Vault{"nil": nil, "zero": {}, "new": new(vault.Vault)} {
		wantNothing(t, name, v)
	}
	v, _, _ := vault.Load("", "")
	wantNothing(t, "of no whole file", v)
}

func TestCopies(t *testing.T) { // P1: no call made them: theirs end, and none panics
	p := made(t, 1, 3, 1)
	copied := *p.v
	for _, n := range ends {
		copied.Append("x")
		copied.Sync()
		copied.Snap([]string{"y"})
		copied.Append("z")
		copied.Crash(n)
		copied.Die([]string{"w"}, n)
		copied.Files()
	}
	if i, n := copied.Use(); i < 0 || n < 0 || copied.Size() < 0 {
		t.Errorf("a copy: %d, %d, %d", i, n, copied.Size())
	}
}

func TestManyTexts(t *testing.T) { // P1: a Vault whose files were gone through at each call would not come to its end
	const many = 1 << 17
	v := vault.New()
	var l []string
	for i := range many {
		l = append(l, "ab")
		if e := v.Append("ab"); e != api.OK || v.Size() != 22+11*(i+1) {
			t.Fatalf("Append %d: %d, Size %d", i, e, v.Size())
		}
		if i%2 == 1 && v.Sync() != 2 {
			t.Fatalf("Sync %d", i)
		}
		if file, n := v.Use(); file != 0 || n != 0 {
			t.Fatalf("Use %d: %d, %d", i, file, n)
		}
	}
	if got := v.Crash(0); !slices.Equal(got, l) {
		t.Errorf("Crash: %s", show(got))
	}
	if e := v.Snap(l); e != api.OK || v.Size() != 22+11*many {
		t.Errorf("Snap: %d, Size %d", e, v.Size())
	}
	if got, e := v.Die(l[1:], 21+11*(many-1)); e != api.OK || !slices.Equal(got, l) {
		t.Errorf("Die: %s, %d", show(got), e)
	}
	if got, e := v.Die(l[1:], 22+11*(many-1)); e != api.OK || !slices.Equal(got, l[1:]) {
		t.Errorf("Die: %s, %d", show(got), e)
	}
}

func TestManySnapshots(t *testing.T) { // P13.3: the files take turns, and nothing of the one ahead stays
	p := fresh()
	for i := range 1000 {
		wantStep(t, fmt.Sprint("snapshot ", i), p, step{k: 'S', l: []string{text(i, i%50), text(i, (i*7)%30)}[:i%3%2+1]})
		if file, n := p.v.Use(); file != (i+1)%2 || n != i+1 {
			t.Fatalf("Use: %d, %d", file, n)
		}
	}
	wantOn(t, "many", p)
}
