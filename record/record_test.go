package record_test

import (
	"encoding/binary"
	"fmt"
	"hash/crc32"
	"math"
	"math/rand"
	"slices"
	"strings"
	"testing"
	"unsafe"

	"petrel/api"
	"petrel/record"
)

// ends are numbers at their ends, and such as would come round, if something were put to them.
var ends = []int{math.MinInt, math.MinInt + 1, math.MinInt32 - 1, math.MinInt32, -1 << 20, -256, -10, -9, -8, -5, -4, -3, -2, -1, math.MaxInt32 - 9, math.MaxInt32, math.MaxUint32, 1 << 32, math.MaxInt - 10, math.MaxInt - 9, math.MaxInt - 8, math.MaxInt - 5, math.MaxInt - 4, math.MaxInt - 1, math.MaxInt}

// kinds are those that there are.
var kinds = []int{api.RGen, api.RSeal, api.REntry}

var (
	gen  = api.Record{K: api.RGen, Body: "\x00\x00\x00\x05"}
	seal = api.Record{K: api.RSeal}
)

func entry(body string) api.Record {
	return api.Record{K: api.REntry, Body: body}
}

// text is n bytes of all kinds, others for another from.
func text(from, n int) string {
	l := make([]byte, n)
	for i := range l {
		l[i] = byte((from+i)*31 + (from+i)/256)
	}
	return string(l)
}

// laid is a record's bytes with parts as they are told, fitting or not.
func laid(length uint32, kind byte, body string, sum uint32) string {
	s := binary.BigEndian.AppendUint32(nil, length)
	s = append(append(s, kind), body...)
	return string(binary.BigEndian.AppendUint32(s, sum))
}

// sum is what fits a kind and a Body.
func sum(kind byte, body string) uint32 {
	return crc32.ChecksumIEEE([]byte(string([]byte{kind}) + body))
}

// fit is a record's bytes of which all but maybe the kind is right.
func fit(kind byte, body string) string {
	return laid(uint32(len(body)), kind, body, sum(kind, body))
}

// row is the bytes of records, one behind the other.
func row(l []api.Record) string {
	var s strings.Builder
	for _, r := range l {
		s.WriteString(fit(byte(r.K), r.Body))
	}
	return s.String()
}

// told is Next as the chapter tells it.
func told(s string, at int) (api.Record, int, api.Errno) {
	none := api.Record{}
	if at < 0 || at > len(s) {
		return none, 0, api.ErrRange
	}
	b := []byte(s[at:])
	if len(b) < 4 {
		return none, 0, api.ErrShort
	}
	n := uint64(b[0])<<24 + uint64(b[1])<<16 + uint64(b[2])<<8 + uint64(b[3])
	if n > 1<<20 {
		return none, 0, api.ErrLong
	}
	size := int(n) + 9
	if len(b) < size {
		return none, 0, api.ErrShort
	}
	if b[4] < 1 || b[4] > 3 {
		return none, 0, api.ErrKind
	}
	if crc32.ChecksumIEEE(b[4:size-4]) != binary.BigEndian.Uint32(b[size-4:]) {
		return none, 0, api.ErrSum
	}
	return api.Record{K: int(b[4]), Body: string(b[5 : size-4])}, at + size, api.OK
}

// toldAll is All as the chapter tells it.
func toldAll(s string) ([]api.Record, int, api.Errno) {
	var l []api.Record
	at := 0
	for at != len(s) {
		r, end, e := told(s, at)
		if e != api.OK {
			return l, at, e
		}
		l, at = append(l, r), end
	}
	return l, at, api.OK
}

func show(l []api.Record) string {
	return fmt.Sprintf("%d records, %.200q", len(l), fmt.Sprint(l))
}

func wantPut(t *testing.T, r api.Record, s string, e api.Errno) {
	t.Helper()
	if a, b := record.Put(r); a != s || b != e {
		t.Errorf("Put of kind %d, %.20q (%d bytes): %.40x (%d bytes), %d; want %.40x (%d bytes), %d", r.K, r.Body, len(r.Body), a, len(a), b, s, len(s), e)
	}
}

// wantNext looks twice: what a call answers hangs on its arguments alone.
func wantNext(t *testing.T, s string, at int, r api.Record, end int, e api.Errno) {
	t.Helper()
	for range 2 {
		if a, b, c := record.Next(s, at); a != r || b != end || c != e {
			t.Errorf("Next of %.60x (%d bytes) at %d: %d %.20q (%d bytes), %d, %d; want %d %.20q (%d bytes), %d, %d", s, len(s), at, a.K, a.Body, len(a.Body), b, c, r.K, r.Body, len(r.Body), end, e)
		}
	}
}

// wantError is wantNext of what is no record.
func wantError(t *testing.T, s string, at int, e api.Errno) {
	t.Helper()
	wantNext(t, s, at, api.Record{}, 0, e)
}

func wantAll(t *testing.T, s string, l []api.Record, at int, e api.Errno) {
	t.Helper()
	if a, b, c := record.All(s); !slices.Equal(a, l) || b != at || c != e {
		t.Errorf("All of %.60x (%d bytes): %s, %d, %d; want %s, %d, %d", s, len(s), show(a), b, c, show(l), at, e)
	}
}

// wantTold holds Next at that place, and All, to the chapter's own.
func wantTold(t *testing.T, s string, at int) {
	t.Helper()
	r, end, e := told(s, at)
	wantNext(t, s, at, r, end, e)
	l, begin, e := toldAll(s)
	wantAll(t, s, l, begin, e)
}

func TestExample(t *testing.T) {
	const s = "\x00\x00\x00\x00\x02\x3c\x0c\x8e\xa1"
	wantPut(t, seal, s, api.OK)
	wantNext(t, s, 0, seal, 9, api.OK)
	wantAll(t, s, []api.Record{seal}, 9, api.OK)
}

func TestBytesWrittenOut(t *testing.T) { // P11.1, P11.2: sums that are reckoned apart
	for _, x := range []struct {
		r api.Record
		s string
	}{
		{api.Record{K: api.RGen, Body: "\x00\x00\x00\x07"}, "\x00\x00\x00\x04\x01\x00\x00\x00\x07\x65\x26\x4b\x0e"},
		{entry("ab"), "\x00\x00\x00\x02\x03ab\x22\x5d\x3d\xd9"},
	} {
		wantPut(t, x.r, x.s, api.OK)
		wantNext(t, x.s, 0, x.r, len(x.s), api.OK)
	}
}

func TestPut(t *testing.T) { // P11.1: all lengths at which the number of bytes has another form, and those at the limit
	for _, k := range kinds {
		for _, n := range []int{0, 1, 2, 3, 4, 5, 8, 9, 10, 254, 255, 256, 257, 65535, 65536, 65537, api.MaxRecord - 1, api.MaxRecord} {
			body := text(n, n)
			wantPut(t, api.Record{K: k, Body: body}, fit(byte(k), body), api.OK)
		}
		for n := range 600 {
			body := text(n+k, n)
			wantPut(t, api.Record{K: k, Body: body}, fit(byte(k), body), api.OK)
		}
		for _, n := range []int{api.MaxRecord + 1, api.MaxRecord + 2, 2 * api.MaxRecord, 1 << 24, 1<<24 + 1} {
			wantPut(t, api.Record{K: k, Body: text(0, n)}, "", api.ErrLong)
		}
	}
}

func TestPutOfNoKind(t *testing.T) { // P11.1: ErrKind, ahead of ErrLong, whatever the Body
	long := text(0, api.MaxRecord+1)
	for _, k := range append([]int{4, 5, 128, 255, 256, 257, 258, 259, 1<<8 | 2, 1<<16 | 3, 1<<32 | 1}, append([]int{0}, ends...)...) {
		for _, body := range []string{"", "a", long[:9], long[:api.MaxRecord], long} {
			wantPut(t, api.Record{K: k, Body: body}, "", api.ErrKind)
		}
	}
}

func TestSize(t *testing.T) { // P11.1, P6
	for n := range 3000 {
		if got := record.Size(n); got != n+9 {
			t.Errorf("Size(%d): %d", n, got)
		}
		if got := record.Size(-1 - n); got != 0 {
			t.Errorf("Size(%d): %d", -1-n, got)
		}
	}
	for _, n := range []int{api.MaxRecord - 1, api.MaxRecord, api.MaxRecord + 1, math.MaxInt32 - 9, math.MaxInt32, math.MaxUint32, math.MaxInt - 10, math.MaxInt - 9} {
		if got := record.Size(n); got != n+9 {
			t.Errorf("Size(%d): %d", n, got)
		}
	}
	for _, n := range ends {
		if got := record.Size(n); n < 0 && got != 0 || n >= 0 && got < n {
			t.Errorf("Size(%d): %d", n, got)
		}
	}
}

func TestSizeIsOfPut(t *testing.T) { // P11.1
	for _, k := range kinds {
		for _, n := range []int{0, 1, 5, 255, 256, 1000, 65536, api.MaxRecord} {
			s, _ := record.Put(api.Record{K: k, Body: text(1, n)})
			if len(s) != record.Size(n) {
				t.Errorf("Size(%d): %d; Put has %d", n, record.Size(n), len(s))
			}
		}
	}
}

func TestNextReadsWhatWasPut(t *testing.T) { // P11.2, P11.3: whatever stands ahead of it, and behind it
	for _, k := range kinds {
		for _, n := range []int{0, 1, 2, 4, 9, 255, 256, 257, 65536, api.MaxRecord - 1, api.MaxRecord} {
			r := api.Record{K: k, Body: text(k, n)}
			s, _ := record.Put(r)
			for _, ahead := range []string{"", "x", "\x00\x00\x00\x00", s[:min(len(s), 30)], text(0, 300)} {
				for _, behind := range []string{"", "y", "\xff\xff\xff\xff\xff", s[:min(len(s), 30)]} {
					wantNext(t, ahead+s+behind, len(ahead), r, len(ahead)+len(s), api.OK)
				}
			}
		}
	}
}

func TestNextAtPlaces(t *testing.T) { // P11.2, P6: each place of a file, and past both ends
	for _, l := range [][]api.Record{nil, {seal}, {gen, entry("abc"), entry(""), seal}, {entry(row([]api.Record{seal}))}} {
		for _, behind := range []string{"", "\x00", "\x00\x00\x00\x00", "\xff\xff\xff\xff"} {
			s := row(l) + behind
			for at := -20; at <= len(s)+20; at++ {
				wantTold(t, s, at)
			}
			for _, at := range ends {
				wantError(t, s, at, api.ErrRange)
			}
			wantError(t, s, -1, api.ErrRange)
			wantError(t, s, len(s), api.ErrShort)
			wantError(t, s, len(s)+1, api.ErrRange)
		}
	}
}

func TestNextShort(t *testing.T) { // P11.2: each cut of a record, whatever stands ahead of it
	for _, k := range []byte{0, 1, 2, 3, 4, 255} {
		for _, n := range []int{0, 1, 3, 20, 255, 256} {
			for _, ahead := range []string{"", "abc", fit(2, "x")} {
				s := ahead + fit(k, text(0, n))
				for cut := len(ahead); cut < len(s); cut++ {
					wantError(t, s[:cut], len(ahead), api.ErrShort)
				}
			}
		}
	}
	s := fit(3, text(0, api.MaxRecord))
	for _, cut := range []int{0, 1, 3, 4, 5, 6, 1000, api.MaxRecord, api.MaxRecord + 4, api.MaxRecord + 5, api.MaxRecord + 8} {
		wantError(t, s[:cut], 0, api.ErrShort)
	}
}

func TestNextLong(t *testing.T) { // P11.2: ErrLong, if four bytes are there, ahead of all else that is wrong
	for _, n := range []uint32{api.MaxRecord + 1, api.MaxRecord + 2, 2 * api.MaxRecord, 1 << 24, 1 << 28, math.MaxInt32, math.MaxInt32 + 1, math.MaxInt32 + 2, math.MaxUint32 - 9, math.MaxUint32 - 5, math.MaxUint32 - 4, math.MaxUint32 - 1, math.MaxUint32} {
		for _, k := range []byte{0, 1, 2, 3, 4, 255} {
			s := laid(n, k, "abc", sum(k, "abc"))
			for cut := 4; cut <= len(s); cut++ {
				wantError(t, s[:cut], 0, api.ErrLong)
				wantError(t, "xyz"+s[:cut], 3, api.ErrLong)
			}
			for cut := range 4 {
				wantError(t, s[:cut], 0, api.ErrShort)
			}
		}
	}
	for _, n := range []uint32{4, 5, 255, 256, 65536, api.MaxRecord - 1, api.MaxRecord} {
		wantError(t, laid(n, 1, "abc", sum(1, "abc"))[:12], 0, api.ErrShort)
	}
	over := text(0, api.MaxRecord+1)
	wantError(t, fit(1, over), 0, api.ErrLong)
	wantError(t, fit(0, over), 0, api.ErrLong)
}

func TestNextKind(t *testing.T) { // P11.2: whatever its sum is
	for k := range 256 {
		for _, body := range []string{"", "a", text(k, 300)} {
			fits := sum(byte(k), body)
			for _, c := range []uint32{fits, fits + 1, ^fits, 0, crc32.ChecksumIEEE([]byte(body))} {
				s := laid(uint32(len(body)), byte(k), body, c)
				switch {
				case k < 1 || k > 3:
					wantError(t, s, 0, api.ErrKind)
				case c != fits:
					wantError(t, s, 0, api.ErrSum)
				default:
					wantNext(t, s, 0, api.Record{K: k, Body: body}, len(s), api.OK)
				}
			}
		}
	}
}

func TestNextSum(t *testing.T) { // P11.2: each bit of the kind, the Body and the sum counts
	for _, k := range kinds {
		for _, n := range []int{0, 1, 2, 30, 200} {
			s := fit(byte(k), text(9, n))
			for i := 4 * 8; i < 8*len(s); i++ {
				b := []byte(s)
				b[i/8] ^= 1 << (i % 8)
				want := api.ErrSum
				if b[4] < 1 || b[4] > 3 {
					want = api.ErrKind
				}
				wantError(t, string(b), 0, want)
				wantAll(t, s+string(b)+s, []api.Record{{K: k, Body: text(9, n)}}, len(s), want)
			}
		}
	}
	s := []byte(fit(3, text(0, api.MaxRecord)))
	for _, i := range []int{5, 6, api.MaxRecord / 2, api.MaxRecord + 4, api.MaxRecord + 5, api.MaxRecord + 8} {
		s[i] ^= 0x80
		wantError(t, string(s), 0, api.ErrSum)
		s[i] ^= 0x80
	}
	wantNext(t, string(s), 0, api.Record{K: 3, Body: text(0, api.MaxRecord)}, len(s), api.OK)
}

func TestSumIsNotOfTheLength(t *testing.T) { // P11.1, P11.2
	for _, body := range []string{"", "a", "abc"} {
		length := binary.BigEndian.AppendUint32(nil, uint32(len(body)))
		wrong := crc32.ChecksumIEEE(append(length, "\x03"+body...))
		wantError(t, laid(uint32(len(body)), 3, body, wrong), 0, api.ErrSum)
	}
}

func TestEachByte(t *testing.T) { // P11.2: each byte at each place of three records, and put in there, and taken out
	l := []api.Record{gen, entry("abc"), seal}
	s := row(l)
	for i := range len(s) + 1 {
		for b := range 256 {
			sign := string([]byte{byte(b)})
			wantTold(t, s[:i]+sign+s[i:], i)
			if i < len(s) {
				wantTold(t, s[:i]+sign+s[i+1:], i)
			}
		}
		if i < len(s) {
			wantTold(t, s[:i]+s[i+1:], i)
		}
	}
}

func TestShortTexts(t *testing.T) { // P11.2, P1: all texts of up to two bytes, and all lengths of noughts and of ff
	for a := range 256 {
		wantTold(t, string([]byte{byte(a)}), 0)
		for b := range 256 {
			wantTold(t, string([]byte{byte(a), byte(b)}), a%4-1)
		}
	}
	for n := range 300 {
		wantTold(t, strings.Repeat("\x00", n), n/2)
		wantTold(t, strings.Repeat("\xff", n), n/2)
	}
}

func TestAll(t *testing.T) { // P11.2: all rows of up to five records, and behind them what is none
	bodies := []api.Record{gen, seal, entry(""), entry("abc")}
	broken := []struct {
		s string
		e api.Errno
	}{
		{"", api.OK}, {"\x00", api.ErrShort}, {"\x00\x00\x00", api.ErrShort}, {"\x00\x00\x00\x00", api.ErrShort}, {fit(3, "abc")[:11], api.ErrShort},
		{"\x00\x10\x00\x01", api.ErrLong}, {fit(0, ""), api.ErrKind}, {fit(4, "abc"), api.ErrKind}, {laid(3, 3, "abc", 0), api.ErrSum}, {laid(0, 3, "", sum(2, "")), api.ErrSum},
		{strings.Repeat("\x00", 9), api.ErrKind}, {fit(4, "") + fit(3, "abc"), api.ErrKind}, {laid(3, 3, "abc", 0) + fit(3, "abc"), api.ErrSum},
	}
	for n := range 6 {
		rows := 1
		for range n {
			rows *= len(bodies)
		}
		for i := range rows {
			var l []api.Record
			for ; len(l) < n; i /= len(bodies) {
				l = append(l, bodies[i%len(bodies)])
			}
			s := row(l)
			for _, x := range broken {
				wantAll(t, s+x.s, l, len(s), x.e)
			}
		}
	}
}

func TestAllOfNothing(t *testing.T) { // P11.2: all are told, as there are none
	wantAll(t, "", nil, 0, api.OK)
	wantError(t, "", 0, api.ErrShort)
}

func TestTornOff(t *testing.T) { // P11.3: at each place: those that are whole are told, and where the first that is not begins
	l := []api.Record{gen, entry(""), entry(text(0, 300)), seal, entry("abc"), entry(fit(3, "x"))}
	var s string
	var ended []int // where each one ends
	for _, r := range l {
		b, e := record.Put(r)
		if e != api.OK {
			t.Fatalf("Put: %d", e)
		}
		s += b
		ended = append(ended, len(s))
	}
	for cut := range len(s) + 1 {
		whole, begin := 0, 0
		for _, end := range ended {
			if end <= cut {
				whole, begin = whole+1, end
			}
		}
		want := api.ErrShort
		if begin == cut {
			want = api.OK
		}
		wantAll(t, s[:cut], l[:whole], begin, want)
	}
}

func TestNextLeadsOn(t *testing.T) { // P11.2: by where each one ends
	l := []api.Record{gen, entry(text(7, 1000)), entry(""), seal}
	s := row(l)
	at := 0
	for _, r := range l {
		wantNext(t, s, at, r, at+record.Size(len(r.Body)), api.OK)
		_, at, _ = record.Next(s, at)
	}
	if at != len(s) {
		t.Errorf("the end: %d; want %d", at, len(s))
	}
}

// chosen is some text by chance: records, and maybe something broken among them.
func chosen(c *rand.Rand) string {
	var s []byte
	for range c.Intn(8) {
		body := text(c.Intn(1000), c.Intn(1+c.Intn(300)))
		s = append(s, fit(byte(1+c.Intn(3)), body)...)
	}
	for range c.Intn(3) {
		if len(s) == 0 {
			break
		}
		i := c.Intn(len(s))
		switch c.Intn(4) {
		case 0:
			s[i] ^= 1 << c.Intn(8)
		case 1:
			s = s[:i]
		case 2:
			s = slices.Delete(s, i, i+1)
		case 3:
			s = slices.Insert(s, i, byte(c.Intn(256)))
		}
	}
	return string(s)
}

func TestTextsOfChance(t *testing.T) { // P11.2: the same in each run
	c := rand.New(rand.NewSource(11))
	for range 20000 {
		s := chosen(c)
		wantTold(t, s, c.Intn(len(s)+3)-1)
		if t.Failed() {
			return
		}
	}
}

func TestAnswersAreTheirOwn(t *testing.T) { // P4: they share nothing with what was handed in, nor with one another
	s := row([]api.Record{entry("abcdef"), entry("ghi")})
	within := func(part string) bool {
		from, p := uintptr(unsafe.Pointer(unsafe.StringData(s))), uintptr(unsafe.Pointer(unsafe.StringData(part)))
		return p >= from && p < from+uintptr(len(s))
	}
	r, _, _ := record.Next(s, 0)
	if within(r.Body) {
		t.Error("Next: its Body stands in the text")
	}
	l, _, _ := record.All(s)
	for i, r := range l {
		if within(r.Body) {
			t.Errorf("All: the Body of record %d stands in the text", i)
		}
	}
	clear(l)
	wantAll(t, s, []api.Record{entry("abcdef"), entry("ghi")}, len(s), api.OK)
}

func TestManyRecords(t *testing.T) { // P1: a file that were gone through from its beginning each time would not come to its end
	const many = 1 << 20
	one := fit(3, "ab")
	s := strings.Repeat(one, many)
	l, at, e := record.All(s + one[:5])
	if len(l) != many || at != len(s) || e != api.ErrShort {
		t.Errorf("All of %d records: %d, %d, %d", many, len(l), at, e)
	}
	for i, r := range l {
		if r != (api.Record{K: api.REntry, Body: "ab"}) {
			t.Fatalf("record %d: %d %q", i, r.K, r.Body)
		}
	}
	wantNext(t, s, len(s)/2, api.Record{K: api.REntry, Body: "ab"}, len(s)/2+len(one), api.OK)
}

func TestLongRecords(t *testing.T) { // P1
	var l []api.Record
	for i := range 20 {
		l = append(l, api.Record{K: api.REntry, Body: text(i, api.MaxRecord-i%2)})
	}
	s := row(l)
	wantAll(t, s, l, len(s), api.OK)
	last := len(s) - record.Size(api.MaxRecord-1)
	wantAll(t, s[:len(s)-1], l[:19], last, api.ErrShort)
	b := []byte(s)
	b[len(b)-1] ^= 1
	wantAll(t, string(b), l[:19], last, api.ErrSum)
}
