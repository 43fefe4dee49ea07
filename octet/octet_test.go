package octet_test

import (
	"math"
	"strings"
	"testing"

	"petrel/api"
	"petrel/octet"
)

const most = 1<<16 - 1

// ends are numbers at their ends, and beside the ends that the chapter names.
var ends = []int{math.MinInt, math.MinInt + 1, math.MinInt32, -65536, -256, -4, -2, -1, 0, 1, 2, 3, 4, 5, 7, 8, 16, 32, 64, 255, 256, 65535, 65536, math.MaxInt32, math.MaxUint32, math.MaxUint32 + 1, math.MaxInt - 1, math.MaxInt}

func wantDone(t *testing.T, name string, w *octet.Writer, s string, e api.Errno) {
	t.Helper()
	if a, b := w.Done(); a != s || b != e {
		t.Errorf("%s: Done: %.40q (%d bytes), %d; want %.40q (%d bytes), %d", name, a, len(a), b, s, len(s), e)
	}
}

// wantAt looks at where a Reader stands, twice: to look changes nothing.
func wantAt(t *testing.T, name string, r *octet.Reader, left int, e, end api.Errno) {
	t.Helper()
	for range 2 {
		if r.Left() != left || r.Err() != e || r.End() != end {
			t.Errorf("%s: Left %d, Err %d, End %d; want %d, %d, %d", name, r.Left(), r.Err(), r.End(), left, e, end)
		}
	}
}

func TestWriterBegins(t *testing.T) { // P1.1
	wantDone(t, "New", octet.New(), "", api.OK)
	if octet.New() == octet.New() {
		t.Errorf("New: the same Writer twice")
	}
}

func TestWriterNum(t *testing.T) { // P1.1
	for _, x := range []struct {
		n, bytes int
		s        string
		e        api.Errno
	}{
		{0, 1, "\x00", 0}, {7, 1, "\x07", 0}, {255, 1, "\xff", 0},
		{0, 2, "\x00\x00", 0}, {255, 2, "\x00\xff", 0}, {256, 2, "\x01\x00", 0}, {258, 2, "\x01\x02", 0}, {65535, 2, "\xff\xff", 0},
		{0, 4, "\x00\x00\x00\x00", 0}, {65536, 4, "\x00\x01\x00\x00", 0}, {0x01020304, 4, "\x01\x02\x03\x04", 0}, {math.MaxInt32 + 1, 4, "\x80\x00\x00\x00", 0}, {math.MaxUint32, 4, "\xff\xff\xff\xff", 0},
		{-1, 1, "", api.ErrRange}, {-1, 2, "", api.ErrRange}, {-1, 4, "", api.ErrRange}, {math.MinInt, 4, "", api.ErrRange},
		{256, 1, "", api.ErrRange}, {65536, 1, "", api.ErrRange}, {65536, 2, "", api.ErrRange}, {math.MaxUint32 + 1, 4, "", api.ErrRange}, {math.MaxInt, 1, "", api.ErrRange}, {math.MaxInt, 4, "", api.ErrRange},
		{1, 0, "", api.ErrArg}, {1, 3, "", api.ErrArg}, {1, 5, "", api.ErrArg}, {1, 8, "", api.ErrArg}, {1, -1, "", api.ErrArg}, {1, -4, "", api.ErrArg}, {1, math.MaxInt, "", api.ErrArg}, {1, math.MinInt, "", api.ErrArg},
		{-1, 3, "", api.ErrArg}, {math.MaxInt, 0, "", api.ErrArg}, // ErrArg is ahead of ErrRange
	} {
		w := octet.New()
		if w.Num(x.n, x.bytes) != w {
			t.Errorf("Num(%d, %d): another Writer", x.n, x.bytes)
		}
		wantDone(t, "Num", w, x.s, x.e)
	}
}

func TestWriterText(t *testing.T) { // P1.1
	long := strings.Repeat("x", most)
	for _, x := range []struct {
		s, out string
		e      api.Errno
	}{
		{"", "\x00\x00", 0}, {"a", "\x00\x01a", 0}, {"\x00\xff", "\x00\x02\x00\xff", 0},
		{long[:255], "\x00\xff" + long[:255], 0}, {long[:256], "\x01\x00" + long[:256], 0}, {long, "\xff\xff" + long, 0},
		{long + "x", "", api.ErrLong}, {long + long, "", api.ErrLong},
	} {
		w := octet.New()
		if w.Text(x.s) != w {
			t.Errorf("Text of %d bytes: another Writer", len(x.s))
		}
		wantDone(t, "Text", w, x.out, x.e)
	}
}

func TestWriterRaw(t *testing.T) { // P1.1
	for _, s := range []string{"", "a", "\x00\xff\xfe", strings.Repeat("x", most), strings.Repeat("x", 3*most)} {
		w := octet.New()
		if w.Raw(s) != w {
			t.Errorf("Raw of %d bytes: another Writer", len(s))
		}
		wantDone(t, "Raw", w, s, api.OK)
	}
}

func TestWriterGoesOn(t *testing.T) { // P1.1: each stands behind what was written, Done or not
	w := octet.New().Num(1, 1).Num(2, 2).Num(3, 4)
	first, _ := w.Done()
	wantDone(t, "numbers", w, "\x01\x00\x02\x00\x00\x00\x03", api.OK)
	wantDone(t, "numbers again", w, "\x01\x00\x02\x00\x00\x00\x03", api.OK)
	w.Text("ab").Raw("").Raw("c")
	wantDone(t, "all", w, "\x01\x00\x02\x00\x00\x00\x03\x00\x02abc", api.OK)
	if first != "\x01\x00\x02\x00\x00\x00\x03" {
		t.Errorf("what Done told has changed: %q", first)
	}
}

func TestWritersAreTheirOwn(t *testing.T) { // P5
	v, w := octet.New(), octet.New()
	v.Raw("a")
	w.Num(1, 3)
	v.Raw("b")
	wantDone(t, "v", v, "ab", api.OK)
	wantDone(t, "w", w, "", api.ErrArg)
}

func TestWriterFirstErrorStays(t *testing.T) { // P1.1
	long := strings.Repeat("x", most+1)
	for _, e := range []api.Errno{api.ErrArg, api.ErrRange, api.ErrLong} {
		w := octet.New().Raw("ahead")
		switch e {
		case api.ErrArg:
			w.Num(1, 3)
		case api.ErrRange:
			w.Num(256, 1)
		case api.ErrLong:
			w.Text(long)
		}
		wantDone(t, "error", w, "", e)
		if w.Num(1, 1) != w || w.Text("a") != w || w.Raw("a") != w || w.Num(1, 3) != w || w.Num(-1, 1) != w || w.Text(long) != w {
			t.Errorf("behind %d: another Writer", e)
		}
		wantDone(t, "behind an error", w, "", e)
	}
}

func TestReaderBegins(t *testing.T) { // P1.2
	wantAt(t, "of nothing", octet.Open(""), 0, api.OK, api.OK)
	wantAt(t, "of two bytes", octet.Open("ab"), 2, api.OK, api.ErrForm)
	if octet.Open("a") == octet.Open("a") {
		t.Errorf("Open: the same Reader twice")
	}
}

func TestReaderNum(t *testing.T) { // P1.2
	for _, x := range []struct {
		s           string
		bytes, n    int
		left        int
		e, endsWith api.Errno
	}{
		{"\x00", 1, 0, 0, 0, 0}, {"\xff", 1, 255, 0, 0, 0}, {"\x07a", 1, 7, 1, 0, api.ErrForm},
		{"\x01\x02", 2, 258, 0, 0, 0}, {"\xff\xff", 2, 65535, 0, 0, 0}, {"\x00\x01abc", 2, 1, 3, 0, api.ErrForm},
		{"\x01\x02\x03\x04", 4, 0x01020304, 0, 0, 0}, {"\x80\x00\x00\x00", 4, math.MaxInt32 + 1, 0, 0, 0}, {"\xff\xff\xff\xff\x00", 4, math.MaxUint32, 1, 0, api.ErrForm},
		{"", 1, 0, 0, api.ErrShort, api.ErrShort}, {"", 2, 0, 0, api.ErrShort, api.ErrShort}, {"a", 2, 0, 0, api.ErrShort, api.ErrShort}, {"abc", 4, 0, 0, api.ErrShort, api.ErrShort},
		{"abcd", 3, 0, 0, api.ErrArg, api.ErrArg}, {"abcd", 0, 0, 0, api.ErrArg, api.ErrArg}, {"abcd", -1, 0, 0, api.ErrArg, api.ErrArg}, {"abcdefgh", 8, 0, 0, api.ErrArg, api.ErrArg},
		{"", 3, 0, 0, api.ErrArg, api.ErrArg}, {"", math.MaxInt, 0, 0, api.ErrArg, api.ErrArg}, {"", math.MinInt, 0, 0, api.ErrArg, api.ErrArg}, // ErrArg is ahead of ErrShort
	} {
		r := octet.Open(x.s)
		if n := r.Num(x.bytes); n != x.n {
			t.Errorf("Num(%d) of %q: %d; want %d", x.bytes, x.s, n, x.n)
		}
		wantAt(t, "Num", r, x.left, x.e, x.endsWith)
	}
}

func TestReaderText(t *testing.T) { // P1.2
	long := strings.Repeat("x", most)
	for _, x := range []struct {
		s         string
		most      int
		text      string
		left      int
		e, atLast api.Errno
	}{
		{"\x00\x00", 0, "", 0, 0, 0}, {"\x00\x00", 9, "", 0, 0, 0}, {"\x00\x00a", 0, "", 1, 0, api.ErrForm},
		{"\x00\x02ab", 2, "ab", 0, 0, 0}, {"\x00\x02\x00\xffc", 3, "\x00\xff", 1, 0, api.ErrForm}, {"\x00\x02ab", math.MaxInt, "ab", 0, 0, 0},
		{"\x01\x00" + long, 256, long[:256], most - 256, 0, api.ErrForm}, {"\xff\xff" + long, most, long, 0, 0, 0},
		{"", 9, "", 0, api.ErrShort, api.ErrShort}, {"\x00", 9, "", 0, api.ErrShort, api.ErrShort}, {"\x00\x03ab", 9, "", 0, api.ErrShort, api.ErrShort}, {"\x00\x03ab", 3, "", 0, api.ErrShort, api.ErrShort}, {"\x00\x01", 1, "", 0, api.ErrShort, api.ErrShort},
		{"\x00\x03abc", 2, "", 0, api.ErrLong, api.ErrLong}, {"\x00\x01a", 0, "", 0, api.ErrLong, api.ErrLong}, {"\x00\x00", -1, "", 0, api.ErrLong, api.ErrLong}, {"\x00\x00", math.MinInt, "", 0, api.ErrLong, api.ErrLong}, {"\xff\xff" + long, most - 1, "", 0, api.ErrLong, api.ErrLong},
		{"\x00\x03ab", 2, "", 0, api.ErrLong, api.ErrLong}, {"\xff\xff", 0, "", 0, api.ErrLong, api.ErrLong}, // ErrLong is ahead of ErrShort of the text
		{"\x00", -1, "", 0, api.ErrShort, api.ErrShort}, // and behind that of its length
	} {
		r := octet.Open(x.s)
		if s := r.Text(x.most); s != x.text {
			t.Errorf("Text(%d) of %.20q: %.20q; want %.20q", x.most, x.s, s, x.text)
		}
		wantAt(t, "Text", r, x.left, x.e, x.atLast)
	}
}

func TestReaderRaw(t *testing.T) { // P1.2
	for _, x := range []struct {
		s         string
		n         int
		text      string
		left      int
		e, atLast api.Errno
	}{
		{"", 0, "", 0, 0, 0}, {"ab", 0, "", 2, 0, api.ErrForm}, {"ab", 1, "a", 1, 0, api.ErrForm}, {"\x00\xff", 2, "\x00\xff", 0, 0, 0},
		{"ab", 3, "", 0, api.ErrShort, api.ErrShort}, {"", 1, "", 0, api.ErrShort, api.ErrShort}, {"ab", math.MaxInt, "", 0, api.ErrShort, api.ErrShort},
		{"ab", -1, "", 0, api.ErrArg, api.ErrArg}, {"", -1, "", 0, api.ErrArg, api.ErrArg}, {"ab", math.MinInt, "", 0, api.ErrArg, api.ErrArg},
	} {
		r := octet.Open(x.s)
		if s := r.Raw(x.n); s != x.text {
			t.Errorf("Raw(%d) of %q: %q; want %q", x.n, x.s, s, x.text)
		}
		wantAt(t, "Raw", r, x.left, x.e, x.atLast)
	}
}

func TestReaderGoesOn(t *testing.T) { // P1.2: each reads what stands behind what was read
	r := octet.Open("\x01\x00\x02ab\x00\x00\x00\x03cd\x00\x04")
	other := octet.Open("xyz")
	if n := r.Num(1); n != 1 {
		t.Errorf("Num(1): %d", n)
	}
	if s := r.Text(2); s != "ab" {
		t.Errorf("Text(2): %q", s)
	}
	if n := r.Num(4); n != 3 {
		t.Errorf("Num(4): %d", n)
	}
	wantAt(t, "in the middle", r, 4, api.OK, api.ErrForm)
	if s := r.Raw(2); s != "cd" {
		t.Errorf("Raw(2): %q", s)
	}
	if n := r.Num(2); n != 4 {
		t.Errorf("Num(2): %d", n)
	}
	wantAt(t, "at the end", r, 0, api.OK, api.OK)
	wantAt(t, "another one", other, 3, api.OK, api.ErrForm)
}

func TestReaderFirstErrorStays(t *testing.T) { // P1.2
	for _, x := range []struct {
		e    api.Errno
		fail func(r *octet.Reader)
	}{
		{api.ErrArg, func(r *octet.Reader) { r.Num(3) }},
		{api.ErrArg, func(r *octet.Reader) { r.Raw(-1) }},
		{api.ErrShort, func(r *octet.Reader) { r.Raw(9) }},
		{api.ErrShort, func(r *octet.Reader) { r.Text(9) }},
		{api.ErrLong, func(r *octet.Reader) { r.Text(1) }},
	} {
		r := octet.Open("a\x00\x07bcdef") // the text's length is told, the text is not all there
		r.Raw(1)
		x.fail(r)
		wantAt(t, "error", r, 0, x.e, x.e)
		for _, n := range ends {
			if r.Num(n) != 0 || r.Text(n) != "" || r.Raw(n) != "" {
				t.Errorf("behind %d: something is read", x.e)
			}
		}
		wantAt(t, "behind an error", r, 0, x.e, x.e)
	}
}

func TestZeroWriters(t *testing.T) { // P1.3
	made := octet.New().Raw("a")
	copied := *made
	for name, w := range map[string]*octet.Writer{"nil": nil, "zero": {}, "a copy": &copied} {
		for _, n := range ends {
			if w.Num(n, 1) != w || w.Num(1, n) != w {
				t.Errorf("%s: Num: another Writer", name)
			}
		}
		if w.Text("a") != w || w.Text(strings.Repeat("a", most+1)) != w || w.Raw("b") != w {
			t.Errorf("%s: another Writer", name)
		}
		wantDone(t, name, w, "", api.ErrZero)
	}
	made.Raw("c")
	wantDone(t, "of which there is a copy", made, "ac", api.OK)
}

func TestZeroReaders(t *testing.T) { // P1.3
	made := octet.Open("\x00\x01a")
	copied := *made
	for name, r := range map[string]*octet.Reader{"nil": nil, "zero": {}, "a copy": &copied} {
		for _, n := range ends {
			if r.Num(n) != 0 || r.Text(n) != "" || r.Raw(n) != "" {
				t.Errorf("%s: something is read", name)
			}
		}
		wantAt(t, name, r, 0, api.ErrZero, api.ErrZero)
	}
	wantAt(t, "of which there is a copy", made, 3, api.OK, api.ErrForm)
}

// chance is a row of numbers that is the same in each run.
type chance uint32

func (c *chance) next(below int) int {
	*c = *c*1664525 + 1013904223
	return int(*c>>8) % below
}

func (c *chance) text(below int) string {
	b := make([]byte, c.next(below))
	for i := range b {
		b[i] = byte(c.next(256))
	}
	return string(b)
}

// part is something that is written, and read.
type part struct {
	kind, n int
	s       string
}

func (c *chance) part() part {
	sizes := []int{1, 2, 4}
	switch k := c.next(5); k {
	case 0, 1, 2:
		n := c.next(1<<24)<<8 | c.next(256)
		return part{kind: sizes[k], n: n & (1<<(8*sizes[k]) - 1)}
	case 3:
		return part{kind: 8, s: c.text(300)}
	}
	return part{kind: 9, s: c.text(40)}
}

func (p part) write(w *octet.Writer) {
	switch p.kind {
	case 8:
		w.Text(p.s)
	case 9:
		w.Raw(p.s)
	default:
		w.Num(p.n, p.kind)
	}
}

func (p part) isReadBy(r *octet.Reader) bool {
	switch p.kind {
	case 8:
		return r.Text(len(p.s)) == p.s
	case 9:
		return r.Raw(len(p.s)) == p.s
	}
	return r.Num(p.kind) == p.n
}

func TestWhatIsWrittenIsRead(t *testing.T) { // P1.4
	c := chance(1)
	for round := range 400 {
		var parts []part
		w := octet.New()
		for range c.next(20) {
			p := c.part()
			parts = append(parts, p)
			p.write(w)
		}
		s, e := w.Done()
		if e != api.OK {
			t.Fatalf("round %d: Done: %d", round, e)
		}
		behind := c.text(1 + 10*(round%2)) // every other round has nothing behind
		r := octet.Open(s + behind)
		for i, p := range parts {
			if !p.isReadBy(r) {
				t.Fatalf("round %d: part %d (kind %d, %d, %q) is not read as it was", round, i, p.kind, p.n, p.s)
			}
		}
		if r.Err() != api.OK || r.Left() != len(behind) || r.Raw(len(behind)) != behind || r.End() != api.OK {
			t.Fatalf("round %d: what stands behind is not left: %d", round, r.Err())
		}
	}
}

func TestNumbersAtTheirEndsAreRead(t *testing.T) { // P1.4
	for _, bytes := range []int{1, 2, 4} {
		for _, n := range ends {
			s, e := octet.New().Num(n, bytes).Done()
			if fits := n >= 0 && n < 1<<(8*bytes); fits != (e == api.OK) {
				t.Errorf("Num(%d, %d): %d", n, bytes, e)
			}
			if r := octet.Open(s + "behind"); e == api.OK && (r.Num(bytes) != n || r.Left() != len("behind")) {
				t.Errorf("Num(%d, %d) is read as another one", n, bytes)
			}
		}
	}
}

func TestTornEndsAreShort(t *testing.T) { // P1.2, P1.4
	s, _ := octet.New().Num(1, 1).Text("abc").Num(7, 4).Raw("xy").Done()
	for n := range len(s) {
		r := octet.Open(s[:n])
		r.Num(1)
		r.Text(3)
		r.Num(4)
		if x := r.Raw(2); x != "" || r.Err() != api.ErrShort || r.Left() != 0 {
			t.Errorf("of %d bytes: %q, %d", n, x, r.Err())
		}
	}
}

func TestNothingPanics(t *testing.T) { // P1
	c := chance(2)
	for range 2000 {
		r, w := octet.Open(c.text(12)), octet.New()
		for range 6 {
			n := ends[c.next(len(ends))]
			switch c.next(3) {
			case 0:
				r.Num(n)
				w.Num(n, ends[c.next(len(ends))])
			case 1:
				r.Text(n)
				w.Text(c.text(9))
			case 2:
				r.Raw(n)
				w.Raw(c.text(9))
			}
		}
		if s, e := w.Done(); e != api.OK && s != "" {
			t.Errorf("Done: %q beside %d", s, e)
		}
		if r.Err() != api.OK && (r.Left() != 0 || r.End() != r.Err()) {
			t.Errorf("behind %d: Left %d, End %d", r.Err(), r.Left(), r.End())
		}
	}
}
