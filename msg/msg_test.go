package msg_test

import (
	"bytes"
	"encoding/binary"
	"encoding/hex"
	"fmt"
	"math"
	"math/rand"
	"reflect"
	"slices"
	"strings"
	"testing"

	"petrel/api"
	"petrel/msg"
)

// listed are the kinds that have Ids, bodied those that have a Body, and most how many bytes it may have.
var (
	listed = []int{1, 2, 4, 5, 6, 7}
	bodied = []int{3, 8}
	most   = map[int]int{3: 256, 8: 512}
)

// noKinds are numbers of which there is no kind, some of them alike in their low bytes to one that there is.
var noKinds = []int{0, 9, 10, 16, 127, 128, 255, 256, 257, 258, 259, 264, 1<<16 + 2, 1<<32 + 3, 1<<40 + 8, -1, -2, -3, -8, -254, -255, -256, math.MaxInt, math.MinInt, math.MinInt + 2, math.MinInt + 3}

// ids are n ids that rise, from the zero one on.
func ids(n int) []api.Id {
	var l []api.Id
	for i := range n {
		var x api.Id
		binary.BigEndian.PutUint32(x[0:], uint32(i*7))
		binary.BigEndian.PutUint32(x[28:], uint32(i))
		l = append(l, x)
	}
	return l
}

// filled is an id whose bytes are all x, but the last one.
func filled(x, last byte) api.Id {
	l := api.Id(bytes.Repeat([]byte{x}, 32))
	l[31] = last
	return l
}

// lists are ids in any order, more than once among them, and as many as may be, fewer and more.
func lists() [][]api.Id {
	a, b, c := filled(0, 1), filled(9, 2), filled(255, 255)
	down := ids(16)
	slices.Reverse(down)
	return [][]api.Id{
		nil, {}, {{}}, {a}, {c}, {a, b}, {b, a}, {a, a}, {{}, {}}, {c, a, b, a, c}, ids(15), ids(16), down, slices.Repeat([]api.Id{b}, 16),
		ids(17), append(ids(16), api.Id{}), slices.Repeat([]api.Id{a}, 17), ids(18), ids(30), ids(31), ids(32), ids(33), ids(255), ids(256), ids(257), ids(272), ids(512), ids(1000),
	}
}

// bodies are texts of any bytes, of each length at which something ends.
func bodies() []string {
	l := []string{"", "\x00", "\x02\x00", "a", "\xff\xfe", "héader", "\x00\x00\x00"}
	for _, n := range []int{100, 255, 256, 257, 511, 512, 513, 514, 1000, 1020, 1021, 1022, 1023, 1024, 1025, 65534, 65535, 65536, 65537, 1<<16 + 256, 1<<16 + 512, 1 << 17} {
		l = append(l, text(n))
	}
	return l
}

// text is n bytes of all kinds.
func text(n int) string {
	l := make([]byte, n)
	for i := range l {
		l[i] = byte(i*31 + i/256)
	}
	return string(l)
}

// checkTold is Check as the chapter tells it, sentence by sentence.
func checkTold(m api.Msg) api.Errno {
	hasIds, hasBody := slices.Contains(listed, m.K), slices.Contains(bodied, m.K)
	if !hasIds && !hasBody {
		return api.ErrKind
	}
	if !hasIds && len(m.Ids) != 0 || !hasBody && len(m.Body) != 0 {
		return api.ErrForm
	}
	if len(m.Ids) > 16 {
		return api.ErrFull
	}
	if hasBody && len(m.Body) > most[m.K] {
		return api.ErrLong
	}
	if hasBody && m.Body == "" {
		return api.ErrForm
	}
	return api.OK
}

// putTold is the bytes of m, whether or not it may be one, as long as they can tell it.
func putTold(m api.Msg) string {
	l := []byte{byte(m.K)}
	if slices.Contains(bodied, m.K) {
		l = binary.BigEndian.AppendUint16(l, uint16(len(m.Body)))
		return string(append(l, m.Body...))
	}
	l = append(l, byte(len(m.Ids)))
	for _, x := range m.Ids {
		l = append(l, x[:]...)
	}
	return string(l)
}

// fits tells whether putTold tells all of m, in no more bytes than may be.
func fits(m api.Msg) bool {
	switch {
	case slices.Contains(listed, m.K):
		return m.Body == "" && len(m.Ids) < 256 && len(putTold(m)) <= 1024
	case slices.Contains(bodied, m.K):
		return len(m.Ids) == 0 && len(m.Body) < 65536 && len(putTold(m)) <= 1024
	}
	return false
}

// ofTold is Of as the chapter tells it, place by place.
func ofTold(s string) (api.Msg, api.Errno) {
	switch {
	case len(s) > 1024:
		return api.Msg{}, api.ErrLong
	case len(s) < 1:
		return api.Msg{}, api.ErrShort
	}
	m := api.Msg{K: int(s[0])}
	end := 0
	switch {
	case slices.Contains(listed, m.K):
		if len(s) < 2 || len(s) < 2+32*int(s[1]) {
			return api.Msg{}, api.ErrShort
		}
		for i := range int(s[1]) {
			m.Ids = append(m.Ids, api.Id([]byte(s[2+32*i:34+32*i])))
		}
		end = 2 + 32*int(s[1])
	case slices.Contains(bodied, m.K):
		if len(s) < 3 || len(s) < 3+256*int(s[1])+int(s[2]) {
			return api.Msg{}, api.ErrShort
		}
		end = 3 + 256*int(s[1]) + int(s[2])
		m.Body = s[3:end]
	default:
		return api.Msg{}, api.ErrKind
	}
	if end != len(s) {
		return api.Msg{}, api.ErrForm
	}
	return orZero(m, checkTold(m)), checkTold(m)
}

// orZero is m, or the zero one beside an error.
func orZero(m api.Msg, e api.Errno) api.Msg {
	if e != api.OK {
		return api.Msg{}
	}
	return m
}

// sameTold holds a against b by all that they have.
func sameTold(a, b api.Msg) bool {
	if len(a.Ids) == 0 {
		a.Ids = nil
	}
	if len(b.Ids) == 0 {
		b.Ids = nil
	}
	return reflect.DeepEqual(a, b)
}

func brief(m api.Msg) string {
	return fmt.Sprintf("K %d, %d Ids, Body of %d %.20x", m.K, len(m.Ids), len(m.Body), m.Body)
}

// wantMsg looks at all that is told of m: its error, its bytes, and what is read of them.
func wantMsg(t *testing.T, m api.Msg, want api.Errno) {
	t.Helper()
	if e := msg.Check(m); e != want {
		t.Errorf("Check(%s): %d; want %d", brief(m), e, want)
	}
	s, e := msg.Put(m)
	if e != want {
		t.Errorf("Put(%s): %d; want %d", brief(m), e, want)
	}
	if want != api.OK {
		if s != "" {
			t.Errorf("Put(%s): %.40x beside %d", brief(m), s, want)
		}
		return
	}
	if s != putTold(m) {
		t.Errorf("Put(%s): %.60x; want %.60x", brief(m), s, putTold(m))
	}
	wantOf(t, s, m, api.OK)
}

// wantOf looks at what is read of s.
func wantOf(t *testing.T, s string, want api.Msg, wantE api.Errno) {
	t.Helper()
	m, e := msg.Of(s)
	if e != wantE || !sameTold(m, want) {
		t.Errorf("Of(%d bytes %.40x): %s; %d; want %s; %d", len(s), s, brief(m), e, brief(want), wantE)
	}
	if e != api.OK {
		return
	}
	if again, e := msg.Put(m); again != s || e != api.OK { // P9.4
		t.Errorf("Put of what Of(%.60x) is: %.60x, %d", s, again, e)
	}
}

// wantTold looks at what is read of s, as ofTold tells it.
func wantTold(t *testing.T, s string) {
	t.Helper()
	m, e := ofTold(s)
	wantOf(t, s, m, e)
}

func TestExample(t *testing.T) {
	if s, e := msg.Put(api.Msg{K: api.MAsk}); s != "\x02\x00" || e != api.OK {
		t.Errorf("MAsk of no ids: %x, %d", s, e)
	}
	if m, e := msg.Of("\x02\x00"); !sameTold(m, api.Msg{K: api.MAsk}) || e != api.OK {
		t.Errorf("02 00: %s, %d", brief(m), e)
	}
}

func TestBytesByHand(t *testing.T) { // P9.2: written out
	one, two := strings.Repeat("11", 31)+"0a", strings.Repeat("c7", 32)
	nought := strings.Repeat("00", 32)
	l := []api.Id{filled(0xc7, 0xc7), {}, filled(0x11, 10), filled(0xc7, 0xc7)}
	for _, c := range []struct {
		m    api.Msg
		want string
	}{
		{api.Msg{K: api.MHeads, Ids: l[:1]}, "01 01" + two},
		{api.Msg{K: api.MAsk, Ids: l[1:3]}, "02 02" + nought + one},
		{api.Msg{K: api.MHead, Body: "abc"}, "03 0003 616263"},
		{api.Msg{K: api.MHead, Body: strings.Repeat("\xfe", 256)}, "03 0100" + strings.Repeat("fe", 256)},
		{api.Msg{K: api.MWant, Ids: l}, "04 04" + two + nought + one + two},
		{api.Msg{K: api.MHave}, "05 00"},
		{api.Msg{K: api.MDeny, Ids: slices.Repeat(l, 4)}, "06 10" + strings.Repeat(two+nought+one+two, 4)},
		{api.Msg{K: api.MGet, Ids: []api.Id{{}, {}}}, "07 02" + nought + nought},
		{api.Msg{K: api.MPay, Body: "\x00"}, "08 0001 00"},
		{api.Msg{K: api.MPay, Body: strings.Repeat("\x01", 512)}, "08 0200" + strings.Repeat("01", 512)},
	} {
		want := strings.ReplaceAll(c.want, " ", "")
		if s, e := msg.Put(c.m); hex.EncodeToString([]byte(s)) != want || e != api.OK {
			t.Errorf("Put(%s): %x, %d; want %s", brief(c.m), s, e, want)
		}
		wantMsg(t, c.m, api.OK)
	}
}

func TestAllParts(t *testing.T) { // P9.1, P9.2, P9.4, P2: each kind, and what is none, with all Ids and all Bodies
	seen := map[api.Errno]int{}
	for _, k := range slices.Concat(listed, bodied, noKinds) {
		for _, l := range lists() {
			for _, b := range bodies() {
				m := api.Msg{K: k, Ids: l, Body: b}
				want := checkTold(m)
				seen[want]++
				wantMsg(t, m, want)
				if fits(m) { // what may not be put may not be read
					wantOf(t, putTold(m), orZero(m, want), want)
				}
			}
		}
	}
	for _, e := range []api.Errno{api.OK, api.ErrKind, api.ErrForm, api.ErrFull, api.ErrLong} {
		if seen[e] < 30 {
			t.Errorf("the test's own: %d messages of error %d", seen[e], e)
		}
	}
}

func TestOrderOfErrors(t *testing.T) { // P9.1, P2: by hand, the first one of several
	long, many := text(1<<16+1), ids(300)
	for _, c := range []struct {
		m    api.Msg
		want api.Errno
	}{
		{api.Msg{}, api.ErrKind},
		{api.Msg{K: 9, Ids: many, Body: long}, api.ErrKind},
		{api.Msg{K: -1, Body: "a"}, api.ErrKind},
		{api.Msg{K: api.MHeads, Body: "a"}, api.ErrForm},
		{api.Msg{K: api.MHeads, Ids: many, Body: "a"}, api.ErrForm},
		{api.Msg{K: api.MGet, Ids: many, Body: long}, api.ErrForm},
		{api.Msg{K: api.MAsk, Ids: many}, api.ErrFull},
		{api.Msg{K: api.MHead, Ids: ids(1), Body: "a"}, api.ErrForm},
		{api.Msg{K: api.MHead, Ids: many, Body: "a"}, api.ErrForm},
		{api.Msg{K: api.MPay, Ids: many, Body: long}, api.ErrForm},
		{api.Msg{K: api.MPay, Ids: ids(17)}, api.ErrForm},
		{api.Msg{K: api.MHead, Body: long}, api.ErrLong},
		{api.Msg{K: api.MPay, Body: long}, api.ErrLong},
		{api.Msg{K: api.MHead}, api.ErrForm},
		{api.Msg{K: api.MPay, Ids: []api.Id{}}, api.ErrForm},
	} {
		wantMsg(t, c.m, c.want)
		if e := checkTold(c.m); e != c.want {
			t.Errorf("the test's own: %s: %d; want %d", brief(c.m), e, c.want)
		}
	}
}

func TestEndsOfIds(t *testing.T) { // P9.1, Limits
	for _, k := range listed {
		for n := range 300 {
			want := api.OK
			if n > api.MaxIds {
				want = api.ErrFull
			}
			m := api.Msg{K: k, Ids: ids(n)}
			wantMsg(t, m, want)
			if fits(m) {
				wantOf(t, putTold(m), orZero(m, want), want)
			}
		}
	}
}

func TestEndsOfBodies(t *testing.T) { // P9.1, Limits
	for k, most := range map[int]int{api.MHead: api.MaxHeader, api.MPay: api.MaxPayload} {
		for n := range 1100 {
			want := api.OK
			if n == 0 {
				want = api.ErrForm
			} else if n > most {
				want = api.ErrLong
			}
			m := api.Msg{K: k, Body: text(n)}
			wantMsg(t, m, want)
			if fits(m) {
				wantOf(t, putTold(m), orZero(m, want), want)
			}
		}
	}
}

func TestKindsAhead(t *testing.T) { // P9.2: what is no kind is told ahead of all behind it, but not of a text that is too long
	for b := range 256 {
		for _, behind := range []string{"", "\x00", "\x01", "\xff", "\x00\x00", "\xff\xff", "\x00\x01a", "\x00\x01aa", text(32), text(1022), text(1023)} {
			s := string([]byte{byte(b)}) + behind
			m, e := msg.Of(s)
			if none := b < 1 || b > 8; (e == api.ErrKind) != none || none && !sameTold(m, api.Msg{}) {
				t.Errorf("Of(%.40x): %s; %d", s, brief(m), e)
			}
			wantTold(t, s)
		}
		wantOf(t, string([]byte{byte(b)})+text(1024), api.Msg{}, api.ErrLong)
	}
}

func TestOrderOfErrorsOfTexts(t *testing.T) { // P9.2: too long, what can't be read, the kind, what is left, then Check's
	full := putTold(api.Msg{K: api.MWant, Ids: ids(17)})
	long := putTold(api.Msg{K: api.MHead, Body: text(257)})
	longest := putTold(api.Msg{K: api.MPay, Body: text(1021)})
	for _, c := range []struct {
		s    string
		want api.Errno
	}{
		{"", api.ErrShort},
		{"\x00", api.ErrKind},
		{"\x09", api.ErrKind},
		{"\x01", api.ErrShort},
		{"\x03", api.ErrShort},
		{"\x03\x00", api.ErrShort},
		{"\x03\x00\x00", api.ErrForm},
		{"\x03\x00\x00a", api.ErrForm},
		{"\x03\x00\x02a", api.ErrShort},
		{"\x03\x00\x01ab", api.ErrForm},
		{"\x03\xff\xffab", api.ErrShort},
		{"\x08\xff\xff" + text(1021), api.ErrShort},
		{"\x08\xff\xff" + text(1022), api.ErrLong},
		{"\x02\x00a", api.ErrForm},
		{"\x02\xff" + text(1022), api.ErrShort},
		{"\x02\xff" + text(1023), api.ErrLong},
		{full, api.ErrFull},
		{full + "\x00", api.ErrForm},
		{full[:len(full)-1], api.ErrShort},
		{long, api.ErrLong},
		{long + "\x00", api.ErrForm},
		{long[:len(long)-1], api.ErrShort},
		{longest, api.ErrLong},
		{longest[:1023], api.ErrShort},
		{longest + "\x00", api.ErrLong},
	} {
		wantOf(t, c.s, api.Msg{}, c.want)
		if m, e := ofTold(c.s); e != c.want || !sameTold(m, api.Msg{}) {
			t.Errorf("the test's own: %.40x: %d; want %d", c.s, e, c.want)
		}
	}
}

func TestLongTexts(t *testing.T) { // P9.2, Limits: of each length; from one byte past MaxMessage on all are too long
	for n := range 2500 {
		for _, begin := range []string{"\x00", "\x01", "\x02\x1f", "\x03\x00", "\x08\x03\xfd", "\x08\x04", "\xff"} {
			s := (begin + text(n))[:n]
			if m, e := msg.Of(s); n > api.MaxMessage && (e != api.ErrLong || !sameTold(m, api.Msg{})) {
				t.Errorf("Of %d bytes %.4x: %s; %d", n, begin, brief(m), e)
			}
			wantTold(t, s)
		}
	}
}

func TestCutsAndRests(t *testing.T) { // P9.2: each text cut at each place, and with something left
	var all []api.Msg
	for _, k := range listed {
		for _, n := range []int{0, 1, 2, 16} {
			all = append(all, api.Msg{K: k, Ids: ids(n)})
		}
	}
	for _, k := range bodied {
		for _, n := range []int{1, 2, 255, 256, most[k]} {
			all = append(all, api.Msg{K: k, Body: text(n)})
		}
	}
	for _, m := range all {
		s := putTold(m)
		wantOf(t, s, m, api.OK)
		for n := range len(s) {
			wantOf(t, s[:n], api.Msg{}, api.ErrShort)
		}
		for n := len(s) + 1; n <= 1100; n++ {
			want := api.ErrForm
			if n > api.MaxMessage {
				want = api.ErrLong
			}
			wantOf(t, s+strings.Repeat("\x00", n-len(s)), api.Msg{}, want)
			wantOf(t, s+text(n-len(s)), api.Msg{}, want)
		}
	}
}

func TestTurnedBytes(t *testing.T) { // P9.2, P9.4: each byte at each place, put in, and taken away
	for _, m := range []api.Msg{{K: 1}, {K: 2, Ids: ids(1)}, {K: 7, Ids: ids(2)}, {K: 3, Body: "a"}, {K: 3, Body: text(60)}, {K: 8, Body: text(3)}} {
		s := putTold(m)
		for at := range len(s) {
			for b := range 256 {
				l := []byte(s)
				l[at] = byte(b)
				wantTold(t, string(l))
				wantTold(t, string(slices.Insert([]byte(s), at, byte(b))))
			}
			wantTold(t, string(slices.Delete([]byte(s), at, at+1)))
		}
	}
}

func TestShortTexts(t *testing.T) { // P9.2, P1: all of up to two bytes; of three and four those that differ in what plays a part
	wantTold(t, "")
	some := []byte{0, 1, 2, 3, 8, 9, 255}
	for a := range 256 {
		wantTold(t, string([]byte{byte(a)}))
		for b := range 256 {
			s := []byte{byte(a), byte(b)}
			wantTold(t, string(s))
			for _, c := range some {
				wantTold(t, string(append(s, c)))
				wantTold(t, string(append(s, c, 7)))
			}
		}
	}
}

func TestTextsOfChance(t *testing.T) { // P9.2, P9.4: what may be put, or nearly, with some bytes turned; the same in each run
	c := rand.New(rand.NewSource(9))
	read := 0
	for range 50000 {
		m := api.Msg{K: listed[c.Intn(6)], Ids: ids(c.Intn(20))}
		if c.Intn(2) == 0 {
			m = api.Msg{K: bodied[c.Intn(2)], Body: text(c.Intn(520))}
		}
		l := []byte(putTold(m))
		for range c.Intn(3) {
			l[c.Intn(min(len(l), 1+c.Intn(len(l))))] = byte(c.Intn(256))
		}
		wantTold(t, string(l))
		if _, e := ofTold(string(l)); e == api.OK {
			read++
		}
	}
	if read < 5000 {
		t.Errorf("the test's own: %d texts were read", read)
	}
}

func TestNoTwoOfOneText(t *testing.T) { // P9.4
	texts := map[string]api.Msg{}
	for _, m := range odd() {
		s, e := msg.Put(m)
		if e != api.OK {
			continue
		}
		if o, there := texts[s]; there {
			t.Errorf("%s, and %s: both are %.40x", brief(m), brief(o), s)
		}
		texts[s] = m
	}
	if len(texts) < 30 {
		t.Errorf("the test's own: %d texts", len(texts))
	}
}

// odd are messages that differ in one thing or more; some can't be.
func odd() []api.Msg {
	l := []api.Msg{{K: math.MinInt}, {K: 1<<32 + 1}, {Body: "a"}, {K: -1, Ids: ids(1)}, {K: 1, Ids: ids(1), Body: "a"}, {K: 1, Ids: ids(17)}, {K: 3, Body: text(600)}, {K: 3, Ids: ids(1), Body: "a"}}
	for k := range 10 {
		for _, n := range []int{0, 1, 2, 3, 16} {
			l = append(l, api.Msg{K: k, Ids: ids(n)})
		}
		l = append(l,
			api.Msg{K: k, Ids: []api.Id{{31: 1}}}, api.Msg{K: k, Ids: []api.Id{{0: 1}}}, api.Msg{K: k, Ids: []api.Id{{31: 1}, {0: 1}}}, api.Msg{K: k, Ids: []api.Id{{0: 1}, {31: 1}}}, api.Msg{K: k, Ids: []api.Id{{}, {}}},
			api.Msg{K: k, Body: "\x00"}, api.Msg{K: k, Body: "\x00\x00"}, api.Msg{K: k, Body: "ab"}, api.Msg{K: k, Body: "ba"}, api.Msg{K: k, Body: "ab\x00"}, api.Msg{K: k, Body: text(512)},
		)
	}
	return l
}

func TestSame(t *testing.T) { // P9.2
	l, again := odd(), odd()
	for i, a := range l {
		for j, b := range again {
			if got := msg.Same(a, b); got != (i == j) || got != sameTold(a, b) {
				t.Errorf("Same(%s; %s): %t", brief(a), brief(b), got)
			}
		}
	}
	for _, a := range l {
		b := a
		b.Ids = append(make([]api.Id, 0, 400), a.Ids...) // P3: empty, where a's are nil
		if !msg.Same(a, b) || !msg.Same(b, a) || !msg.Same(b, b) {
			t.Errorf("Same(%s, and a copy of it): false", brief(a))
		}
	}
}

// wantCut looks at Cut of l: messages that can be put, with all of it, in order, as many in each as may be.
func wantCut(t *testing.T, k int, l []api.Id) {
	t.Helper()
	got := msg.Cut(k, l)
	if !slices.Contains(listed, k) {
		if len(got) != 0 {
			t.Errorf("Cut(%d, %d ids): %d messages", k, len(l), len(got))
		}
		return
	}
	if want := (len(l) + 15) / 16; len(got) != want {
		t.Fatalf("Cut(%d, %d ids): %d messages; want %d", k, len(l), len(got), want)
	}
	for i, m := range got {
		if want := (api.Msg{K: k, Ids: l[i*16 : min(i*16+16, len(l))]}); !sameTold(m, want) || msg.Check(m) != api.OK {
			t.Errorf("Cut(%d, %d ids): message %d is %s, %d", k, len(l), i, brief(m), msg.Check(m))
		}
	}
}

func TestCut(t *testing.T) { // P9.3
	for _, k := range slices.Concat(listed, bodied, noKinds) {
		for n := range 100 {
			wantCut(t, k, ids(n))
		}
		for _, l := range lists() {
			wantCut(t, k, l)
		}
		wantCut(t, k, slices.Repeat([]api.Id{filled(3, 4), {}, filled(1, 2)}, 40))
	}
	wantCut(t, api.MWant, ids(1<<16))
	wantCut(t, api.MWant, ids(1<<16+1))
}

func TestCutByHand(t *testing.T) { // P9.3: the ends
	l := ids(33)
	slices.Reverse(l)
	for n, want := range map[int][]int{0: nil, 1: {1}, 15: {15}, 16: {16}, 17: {16, 1}, 31: {16, 15}, 32: {16, 16}, 33: {16, 16, 1}} {
		var sizes []int
		var all []api.Id
		for _, m := range msg.Cut(api.MDeny, l[:n]) {
			sizes, all = append(sizes, len(m.Ids)), append(all, m.Ids...)
			if m.K != api.MDeny || m.Body != "" {
				t.Errorf("%d ids: %s", n, brief(m))
			}
		}
		if !slices.Equal(sizes, want) || !slices.Equal(all, l[:n]) {
			t.Errorf("%d ids: %v; want %v", n, sizes, want)
		}
	}
}

func TestWhatIsHandedInStays(t *testing.T) { // P4: with what stands behind the list's end
	for _, list := range lists() {
		for k := range 10 {
			room := append(slices.Clone(list), filled(77, 77), filled(78, 78))
			m := api.Msg{K: k, Ids: room[:len(list)]}
			msg.Check(m)
			msg.Put(m)
			msg.Same(m, m)
			for _, part := range msg.Cut(k, room[:len(list)]) {
				for i := range part.Ids {
					part.Ids[i] = filled(66, 66)
				}
				_ = append(part.Ids, filled(66, 66))
			}
			if !slices.Equal(room, append(slices.Clone(list), filled(77, 77), filled(78, 78))) {
				t.Errorf("kind %d, %d Ids: they were changed", k, len(list))
			}
		}
	}
}

func TestAnswersAreNew(t *testing.T) { // P4: two of one text share nothing, nor do two lists of one answer
	m := api.Msg{K: api.MHave, Ids: ids(7)}
	s := putTold(m)
	a, _ := msg.Of(s)
	b, _ := msg.Of(s)
	a.Ids[0], a.Ids[2] = filled(9, 9), filled(9, 9)
	_ = append(a.Ids[:1], filled(9, 9))
	if c, _ := msg.Of(s); !sameTold(b, m) || !sameTold(c, m) {
		t.Errorf("Of(%.40x): it is changed behind: %s", s, brief(b))
	}
	l := ids(40)
	parts := msg.Cut(api.MGet, l)
	l[0], l[39] = filled(9, 9), filled(9, 9)
	for i := range parts {
		if i%2 == 0 {
			_ = append(parts[i].Ids, filled(8, 8), filled(8, 8))
		}
	}
	if !slices.Equal(slices.Concat(parts[0].Ids, parts[1].Ids, parts[2].Ids), ids(40)) {
		t.Error("Cut: it is changed behind")
	}
}

func TestAgain(t *testing.T) { // P5: a call hangs on its arguments alone
	l := odd()
	for i, m := range l {
		s, e := msg.Put(m)
		msg.Of("\x01")
		msg.Cut(i%10, ids(i))
		msg.Put(l[(i*7+3)%len(l)])
		if again, e2 := msg.Put(m); again != s || e2 != e {
			t.Errorf("Put(%s): %.40x, %d; then %.40x, %d", brief(m), s, e, again, e2)
		}
	}
}

func TestLongOnesEnd(t *testing.T) { // P1
	long := strings.Repeat("\x03", 1<<26)
	many := make([]api.Id, 1<<20)
	for _, k := range slices.Concat(listed, bodied, noKinds) {
		for _, m := range []api.Msg{{K: k, Ids: many}, {K: k, Body: long}, {K: k, Ids: many, Body: long}} {
			wantMsg(t, m, checkTold(m))
			if !msg.Same(m, m) {
				t.Errorf("Same of %s and itself", brief(m))
			}
		}
	}
	wantOf(t, long, api.Msg{}, api.ErrLong)
}
