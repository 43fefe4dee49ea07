package block_test

import (
	"fmt"
	"math"
	"math/rand"
	"slices"
	"strings"
	"testing"

	"petrel/api"
	"petrel/block"
)

// ends are numbers at their ends, and such as would come round, if places were added to them.
var ends = []int{math.MinInt, math.MinInt + 1, math.MinInt + 2, math.MinInt32, -1 << 32, -256, -4, -3, -2, -1, 0, 1, 2, 3, 4, 5, 255, 256, 65536, math.MaxInt32, 1 << 32, 1<<32 + 1, math.MaxInt - 3, math.MaxInt - 2, math.MaxInt - 1, math.MaxInt}

// text is n bytes of all kinds, others for another from.
func text(from, n int) string {
	l := make([]byte, n)
	for i := range l {
		l[i] = byte((from+i)*31 + (from+i)/256)
	}
	return string(l)
}

// told is a file as the chapter tells it: what is safe, and what stands behind that.
type told struct{ safe, tail string }

func (x *told) write(s string) api.Errno {
	x.tail += s
	return api.OK
}

func (x *told) sync() int {
	n := len(x.tail)
	*x = told{safe: x.safe + x.tail}
	return n
}

func (x *told) cut(n int) api.Errno {
	all := x.safe + x.tail
	if n < 0 || n > len(all) {
		return api.ErrRange
	}
	*x = told{safe: all[:n]}
	return api.OK
}

func (x *told) crash(n int) int {
	if n < 0 {
		n = 0
	}
	if n > len(x.tail) {
		n = len(x.tail)
	}
	gone := len(x.tail) - n
	*x = told{safe: x.safe + x.tail[:n]}
	return gone
}

// wantBlock looks at all that b tells, twice: to look changes nothing.
func wantBlock(t *testing.T, name string, b *block.Block, x told) {
	t.Helper()
	all := x.safe + x.tail
	for range 2 {
		if b.Data() != all || b.Size() != len(all) || b.Tail() != len(x.tail) {
			t.Errorf("%s: Data %.40q (%d bytes), Size %d, Tail %d; want %.40q (%d bytes), Tail %d", name, b.Data(), len(b.Data()), b.Size(), b.Tail(), all, len(all), len(x.tail))
		}
	}
}

// step is a call: w(rite), s(ync), c(ut) or a crash (!).
type step struct {
	k byte
	s string
	n int
}

// does makes the call on both, and tells what they answer.
func (p step) does(b *block.Block, x *told) (got, want int) {
	switch p.k {
	case 'w':
		return int(b.Write(p.s)), int(x.write(p.s))
	case 's':
		return b.Sync(), x.sync()
	case 'c':
		return int(b.Cut(p.n)), int(x.cut(p.n))
	}
	return b.Crash(p.n), x.crash(p.n)
}

// wantSteps makes all calls, one behind the other, and looks at each.
func wantSteps(t *testing.T, name string, steps []step) {
	t.Helper()
	b, x := block.New(), told{}
	for i, p := range steps {
		got, want := p.does(b, &x)
		at := fmt.Sprintf("%s, step %d (%c %.20q %d)", name, i, p.k, p.s, p.n)
		if got != want {
			t.Errorf("%s: %d; want %d", at, got, want)
		}
		wantBlock(t, at, b, x)
		if t.Failed() {
			return
		}
	}
}

// made is a file with so many bytes that are safe, and so many that are not.
func made(safe, tail int) (*block.Block, told) {
	b, x := block.New(), told{text(0, safe), text(safe, tail)}
	b.Write(x.safe)
	b.Sync()
	b.Write(x.tail)
	return b, x
}

func TestExample(t *testing.T) {
	b := block.New()
	b.Write("abc")
	b.Sync()
	b.Write("de")
	if n := b.Crash(1); n != 1 || b.Data() != "abcd" || b.Size() != 4 || b.Tail() != 0 {
		t.Errorf("Crash(1): %d, %q, Size %d, Tail %d", n, b.Data(), b.Size(), b.Tail())
	}
}

func TestNew(t *testing.T) { // P10.1
	wantBlock(t, "New", block.New(), told{})
	if block.New() == block.New() {
		t.Error("New: the same file twice")
	}
	for _, n := range ends {
		want := api.ErrRange
		if n == 0 {
			want = api.OK
		}
		b := block.New()
		if e := b.Cut(n); e != want {
			t.Errorf("Cut(%d) of no bytes: %d; want %d", n, e, want)
		}
		if gone := b.Crash(n); gone != 0 || b.Sync() != 0 {
			t.Errorf("Crash(%d) of no bytes: %d", n, gone)
		}
		wantBlock(t, "of no bytes", b, told{})
	}
}

func TestWrite(t *testing.T) { // P10.1: any bytes, behind the others, and not safe
	for _, s := range []string{"", "a", "\x00", "\x00\x00\x00", "\xff\xfe", "héader", "abc\x00", text(3, 300), text(0, 1<<16+1)} {
		for _, ahead := range []told{{}, {"abc", ""}, {"", "de"}, {"abc", "de"}, {text(0, 1000), text(5, 1000)}} {
			b := block.New()
			b.Write(ahead.safe)
			b.Sync()
			b.Write(ahead.tail)
			if e := b.Write(s); e != api.OK {
				t.Errorf("Write of %.20q: %d", s, e)
			}
			wantBlock(t, "written", b, told{ahead.safe, ahead.tail + s})
		}
	}
}

func TestSync(t *testing.T) { // P10.1: how many were not safe, and from then on all are
	for safe := range 20 {
		for tail := range 20 {
			b, x := made(safe, tail)
			wantBlock(t, "ahead of Sync", b, x)
			if n := b.Sync(); n != tail {
				t.Errorf("Sync of %d and %d: %d", safe, tail, n)
			}
			wantBlock(t, "behind Sync", b, told{x.safe + x.tail, ""})
			if n := b.Sync(); n != 0 {
				t.Errorf("Sync of %d and %d again: %d", safe, tail, n)
			}
			if n := b.Crash(-1); n != 0 {
				t.Errorf("Crash behind Sync of %d and %d: %d", safe, tail, n)
			}
			wantBlock(t, "behind a crash", b, told{x.safe + x.tail, ""})
		}
	}
}

// places are all places of a file of size bytes, and past both ends.
func places(size int) []int {
	l := slices.Clone(ends)
	for n := -2; n <= size+2; n++ {
		l = append(l, n)
	}
	return l
}

func TestCut(t *testing.T) { // P10.1, P6: at each place; past the ends nothing has changed
	for safe := range 9 {
		for tail := range 9 {
			for _, n := range places(safe + tail) {
				b, x := made(safe, tail)
				all := x.safe + x.tail
				e := b.Cut(n)
				if n < 0 || n > len(all) {
					if e != api.ErrRange {
						t.Errorf("Cut(%d) of %d and %d: %d", n, safe, tail, e)
					}
					wantBlock(t, "not cut", b, x)
					continue
				}
				if e != api.OK {
					t.Errorf("Cut(%d) of %d and %d: %d", n, safe, tail, e)
				}
				wantBlock(t, "cut", b, told{all[:n], ""})
				if gone := b.Crash(0); gone != 0 {
					t.Errorf("Crash behind Cut(%d) of %d and %d: %d", n, safe, tail, gone)
				}
				wantBlock(t, "cut, and crashed", b, told{all[:n], ""})
				b.Write("xyz")
				wantBlock(t, "cut, and written", b, told{all[:n], "xyz"})
			}
		}
	}
}

func TestCrash(t *testing.T) { // P10.1, P10.3: at each place of what is not safe, and past its ends
	for safe := range 9 {
		for tail := range 9 {
			for _, n := range places(safe + tail) {
				b, x := made(safe, tail)
				stay := n
				switch {
				case n < 0:
					stay = 0
				case n > tail:
					stay = tail
				}
				if gone := b.Crash(n); gone != tail-stay {
					t.Errorf("Crash(%d) of %d and %d: %d", n, safe, tail, gone)
				}
				left := x.safe + x.tail[:stay]
				wantBlock(t, "crashed", b, told{left, ""})
				if b.Crash(0) != 0 || b.Sync() != 0 {
					t.Errorf("Crash(%d) of %d and %d: not all that is left is safe", n, safe, tail)
				}
				b.Write("xyz")
				wantBlock(t, "crashed, and written", b, told{left, "xyz"})
				if gone := b.Crash(2); gone != 1 {
					t.Errorf("Crash(2) of %d and 3: %d", len(left), gone)
				}
				wantBlock(t, "crashed, and crashed", b, told{left + "xy", ""})
			}
		}
	}
}

func TestAllSteps(t *testing.T) { // P10.1: all rows of five calls
	kinds := []step{{'w', "abc", 0}, {'w', "", 0}, {'w', "\x00z", 0}, {'s', "", 0}, {'c', "", -1}, {'c', "", 0}, {'c', "", 2}, {'c', "", 4}, {'!', "", -1}, {'!', "", 0}, {'!', "", 1}, {'!', "", 9}}
	rows := 1
	for range 5 {
		rows *= len(kinds)
	}
	for row := range rows {
		var l []step
		for i := row; len(l) < 5; i /= len(kinds) {
			l = append(l, kinds[i%len(kinds)])
		}
		wantSteps(t, fmt.Sprint("row ", row), l)
		if t.Failed() {
			return
		}
	}
}

// chosen is a call by chance on a file of about so many bytes.
func chosen(c *rand.Rand, size int) step {
	n := c.Intn(size+4) - 2
	if c.Intn(20) == 0 {
		n = ends[c.Intn(len(ends))]
	}
	switch c.Intn(10) {
	case 0:
		return step{k: 's'}
	case 1:
		return step{k: 'c', n: n}
	case 2, 3:
		return step{k: '!', n: c.Intn(40) - 5}
	case 4:
		return step{k: '!', n: n}
	}
	return step{k: 'w', s: text(c.Intn(1000), c.Intn(1+c.Intn(60)))}
}

func TestStepsOfChance(t *testing.T) { // P10.1: the same in each run
	c := rand.New(rand.NewSource(10))
	for row := range 300 {
		var l []step
		for range 300 {
			l = append(l, chosen(c, 1+c.Intn(2000)))
		}
		wantSteps(t, fmt.Sprint("row ", row), l)
		if t.Failed() {
			return
		}
	}
}

func TestWhatIsSafeStays(t *testing.T) { // P10.3: without Cut, what was safe once begins all that is told from then on, and that begins what was written since
	c := rand.New(rand.NewSource(3))
	for range 200 {
		b, safe, all := block.New(), "", ""
		for range 100 {
			switch c.Intn(4) {
			case 0:
				b.Sync()
				safe = b.Data()
			case 1:
				n := c.Intn(12) - 2
				b.Crash(n)
				if !strings.HasPrefix(all, b.Data()) {
					t.Fatalf("Crash(%d): %q, of %q", n, b.Data(), all)
				}
				all, safe = b.Data(), b.Data()
			default:
				s := text(c.Intn(99), c.Intn(9))
				b.Write(s)
				all += s
			}
			if !strings.HasPrefix(b.Data(), safe) || b.Data() != all || b.Size()-b.Tail() != len(safe) {
				t.Fatalf("%q, of which %d are not safe; want %q, and %q is safe", b.Data(), b.Tail(), all, safe)
			}
		}
	}
}

func TestDataStays(t *testing.T) { // P4: what was told is not changed behind, whatever goes and is written over
	b := block.New()
	var was, copies []string
	c := rand.New(rand.NewSource(4))
	for range 2000 {
		chosen(c, 100).does(b, &told{})
		was, copies = append(was, b.Data()), append(copies, strings.Clone(b.Data()))
	}
	if !slices.Equal(was, copies) {
		t.Error("Data: it has changed behind")
	}
}

func TestBlocksAreTheirOwn(t *testing.T) { // P5
	a, b := block.New(), block.New()
	a.Write("abc")
	b.Write("x")
	a.Sync()
	b.Write("yz")
	wantBlock(t, "a", a, told{"abc", ""})
	wantBlock(t, "b", b, told{"", "xyz"})
	a.Cut(0)
	b.Crash(1)
	a.Write("d")
	wantBlock(t, "a", a, told{"", "d"})
	wantBlock(t, "b", b, told{"x", ""})
	wantBlock(t, "another one", block.New(), told{})
}

func TestNoBlocks(t *testing.T) { // P10.2
	from, _ := made(3, 2)
	copied := *from
	for name, b := range map[string]*block.Block{"nil": nil, "zero": {}, "new": new(block.Block), "a copy": &copied} {
		for _, s := range []string{"", "a", text(0, 300)} {
			if e := b.Write(s); e != api.ErrZero {
				t.Errorf("%s: Write: %d", name, e)
			}
		}
		for _, n := range ends {
			if e := b.Cut(n); e != api.ErrZero {
				t.Errorf("%s: Cut(%d): %d", name, n, e)
			}
			if gone := b.Crash(n); gone != 0 {
				t.Errorf("%s: Crash(%d): %d", name, n, gone)
			}
		}
		if n := b.Sync(); n != 0 {
			t.Errorf("%s: Sync: %d", name, n)
		}
		wantBlock(t, name, b, told{})
	}
	wantBlock(t, "of which there is a copy", from, told{text(0, 3), text(3, 2)})
	from.Write("x")
	wantBlock(t, "of which there is a copy", from, told{text(0, 3), text(3, 2) + "x"})
}

func TestManyWrites(t *testing.T) { // P1: byte by byte; a file that were laid anew each time would not come to its end
	const many = 1 << 20
	b, s := block.New(), text(0, many)
	for i := range s {
		b.Write(s[i : i+1])
		if b.Size() != i+1 || b.Tail() != 1 {
			t.Fatalf("byte %d: Size %d, Tail %d", i, b.Size(), b.Tail())
		}
		b.Sync()
	}
	wantBlock(t, "byte by byte", b, told{s, ""})
	for i := range many {
		b.Write("ab")
		if b.Crash(0) != 2 || b.Size() != many {
			t.Fatalf("crash %d: Size %d", i, b.Size())
		}
	}
	wantBlock(t, "crash by crash", b, told{s, ""})
}

func TestLongOnes(t *testing.T) { // P1
	long := text(0, 1<<26)
	b := block.New()
	if e := b.Write(long); e != api.OK {
		t.Errorf("Write of 2^26 bytes: %d", e)
	}
	b.Sync()
	b.Write(long[5:])
	wantBlock(t, "long", b, told{long, long[5:]})
	if gone := b.Crash(1 << 20); gone != 1<<26-5-1<<20 {
		t.Errorf("Crash(2^20): %d", gone)
	}
	wantBlock(t, "long, and crashed", b, told{long + long[5:5+1<<20], ""})
	if e := b.Cut(7); e != api.OK {
		t.Errorf("Cut(7): %d", e)
	}
	b.Write("x")
	wantBlock(t, "long, and cut", b, told{long[:7], "x"})
}
