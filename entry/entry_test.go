package entry_test

import (
	"bytes"
	"encoding/hex"
	"fmt"
	"math"
	"math/rand"
	"regexp"
	"slices"
	"strings"
	"testing"

	"petrel/api"
	"petrel/entry"
)

// What each kind has, and of those with a Body how many bytes it may have.
var (
	kinds  = []int{1, 2, 3, 4, 5, 6, 7}
	topics = []int{5, 6, 7}
	most   = map[int]int{1: 256, 2: 256, 3: 512, 7: 1<<20 - 64}
)

// noKinds are numbers of which there is no kind, some of them alike in their low bytes to one that there is.
var noKinds = []int{0, 8, 9, 16, 127, 128, 255, 256, 257, 259, 260, 261, 263, 1<<16 + 5, 1<<32 + 7, 1<<40 + 1, -1, -2, -4, -5, -7, -249, -251, -256, math.MaxInt, math.MaxInt - 2, math.MinInt, math.MinInt + 4, math.MinInt + 7}

// names are such as are topics, such as are none, and such as can be told by no length of one byte.
var names = []string{
	"", "c", "ca", "s0", "l-9", "m--z", "r9a0", "c12345678901", "c-----------", "sabcdefghijk", "c1234567890-", "c123456789012", "r1234567890123456789",
	"C", "Ca", "cA", "ta", "c-", "-c", "-", "c_", "c a", "c\x00", "\x00\x00", "\xff\xfe", "cé", " ca", "ca ", "ca\n",
	text(253), "c" + strings.Repeat("a", 253), "c" + strings.Repeat("a", 254), "c" + strings.Repeat("a", 255), "c" + strings.Repeat("a", 256), "ca" + strings.Repeat("b", 256), "s" + strings.Repeat("a", 65536),
}

// commits are sums at their ends.
var commits = []api.Id{{}, {0: 1}, {31: 1}, {15: 128}, filled(255), filled(7)}

// isName is what a topic's name is.
var isName = regexp.MustCompile(`^[cslmr][a-z0-9-]{0,10}[a-z0-9]$`)

// bodies are texts of any bytes, of each length at which something ends.
func bodies() []string {
	l := []string{"", "\x00", "\x05\x02ca", "a", "\xff\xfe", "héader"}
	for _, n := range []int{100, 255, 256, 257, 258, 511, 512, 513, 514, 65535, 65536, 65536 + 256, 65536 + 512, 1<<20 - 66, 1<<20 - 65, 1<<20 - 64, 1<<20 - 63, 1<<20 - 1, 1 << 20, 1<<20 + 1} {
		l = append(l, text(n))
	}
	return l
}

// text is n bytes of all kinds.
func text(n int) string {
	l := make([]byte, n)
	for i := range l {
		l[i] = byte(i*31 + i/256)
	}
	return string(l)
}

// filled is an id whose bytes are all x.
func filled(x byte) api.Id {
	return api.Id(bytes.Repeat([]byte{x}, 32))
}

func hasTopic(k int) bool { return slices.Contains(topics, k) }

func hasBody(k int) bool { return most[k] > 0 }

// checkTold is Check as the chapter tells it, sentence by sentence.
func checkTold(e api.Entry) api.Errno {
	switch {
	case e.K < 1 || e.K > 7:
		return api.ErrKind
	case !hasTopic(e.K) && e.Topic != "" || e.K != 4 && e.Commit != (api.Id{}) || !hasBody(e.K) && e.Body != "":
		return api.ErrForm
	case hasTopic(e.K) && !isName.MatchString(e.Topic):
		return api.ErrTopic
	case hasBody(e.K) && e.K != 7 && len(e.Body) == 0:
		return api.ErrForm
	case hasBody(e.K) && len(e.Body) > most[e.K]:
		return api.ErrLong
	}
	return api.OK
}

// putTold is the bytes of e, whether or not it may be one, as long as they can tell it.
func putTold(e api.Entry) string {
	l := []byte{byte(e.K)}
	if hasTopic(e.K) {
		l = append(append(l, byte(len(e.Topic))), e.Topic...)
	}
	if e.K == 4 {
		l = append(l, e.Commit[:]...)
	}
	if hasBody(e.K) {
		l = append(l, e.Body...)
	}
	return string(l)
}

// fits tells whether putTold tells all of e.
func fits(e api.Entry) bool {
	switch {
	case !slices.Contains(kinds, e.K) || len(e.Topic) > 255:
		return false
	case e.K == 4:
		return e.Topic == "" && e.Body == ""
	case e.Commit != api.Id{}:
		return false
	}
	return (hasTopic(e.K) || e.Topic == "") && (hasBody(e.K) || e.Body == "")
}

// ofTold is Of as the chapter tells it, place by place.
func ofTold(s string) (api.Entry, api.Errno) {
	if len(s) < 1 {
		return api.Entry{}, api.ErrShort
	}
	e := api.Entry{K: int(s[0])}
	end := 1
	switch {
	case e.K < 1 || e.K > 7:
		return api.Entry{}, api.ErrKind
	case hasTopic(e.K):
		if len(s) < 2 || len(s) < 2+int(s[1]) {
			return api.Entry{}, api.ErrShort
		}
		end = 2 + int(s[1])
		e.Topic = s[2:end]
	case e.K == 4:
		if len(s) < 33 {
			return api.Entry{}, api.ErrShort
		}
		end = 33
		e.Commit = api.Id([]byte(s[1:33]))
	}
	if hasBody(e.K) {
		e.Body = s[end:]
	} else if end < len(s) {
		return api.Entry{}, api.ErrForm
	}
	return orZero(e, checkTold(e)), checkTold(e)
}

// orZero is e, or the zero one beside an error.
func orZero(e api.Entry, err api.Errno) api.Entry {
	if err != api.OK {
		return api.Entry{}
	}
	return e
}

func brief(e api.Entry) string {
	return fmt.Sprintf("K %d, Topic of %d %.14q, Commit %.4x, Body of %d %.20x", e.K, len(e.Topic), e.Topic, e.Commit[:], len(e.Body), e.Body)
}

// wantEntry looks at all that is told of e: its error, its bytes, and what is read of them.
func wantEntry(t *testing.T, e api.Entry, want api.Errno) {
	t.Helper()
	if err := entry.Check(e); err != want {
		t.Errorf("Check(%s): %d; want %d", brief(e), err, want)
	}
	s, err := entry.Put(e)
	if err != want {
		t.Errorf("Put(%s): %d; want %d", brief(e), err, want)
	}
	if want != api.OK {
		if s != "" {
			t.Errorf("Put(%s): %.40x beside %d", brief(e), s, want)
		}
		return
	}
	if s != putTold(e) {
		t.Errorf("Put(%s): %d bytes %.60x; want %d bytes %.60x", brief(e), len(s), s, len(putTold(e)), putTold(e))
	}
	wantOf(t, s, e, api.OK) // P14.3
}

// wantOf looks at what is read of s.
func wantOf(t *testing.T, s string, want api.Entry, wantErr api.Errno) {
	t.Helper()
	e, err := entry.Of(s)
	if err != wantErr || e != want {
		t.Errorf("Of(%d bytes %.40x): %s; %d; want %s; %d", len(s), s, brief(e), err, brief(want), wantErr)
	}
	if err != api.OK {
		return
	}
	if again, err := entry.Put(e); again != s || err != api.OK { // P14.3
		t.Errorf("Put of what Of(%.60x) is: %.60x, %d", s, again, err)
	}
}

// wantTold looks at what is read of s, as ofTold tells it.
func wantTold(t *testing.T, s string) {
	t.Helper()
	e, err := ofTold(s)
	wantOf(t, s, e, err)
}

func TestExample(t *testing.T) {
	e := api.Entry{K: api.ESub, Topic: "ca"}
	if s, err := entry.Put(e); s != "\x05\x02\x63\x61" || err != api.OK {
		t.Errorf("ESub of ca: %x, %d", s, err)
	}
	if got, err := entry.Of("\x05\x02\x63\x61"); got != e || err != api.OK {
		t.Errorf("05 02 63 61: %s, %d", brief(got), err)
	}
}

func TestBytesByHand(t *testing.T) { // P14.2: written out
	var id api.Id
	for i := range id {
		id[i] = byte(0xa0 + i)
	}
	told := "a0a1a2a3a4a5a6a7a8a9aaabacadaeafb0b1b2b3b4b5b6b7b8b9babbbcbdbebf"
	for _, c := range []struct {
		e    api.Entry
		want string
	}{
		{api.Entry{K: api.EOwn, Body: "abc"}, "01 616263"},
		{api.Entry{K: api.EOwn, Body: strings.Repeat("\xfe", 256)}, "01" + strings.Repeat("fe", 256)},
		{api.Entry{K: api.EHead, Body: "\x00"}, "02 00"},
		{api.Entry{K: api.EHead, Body: strings.Repeat("\x02", 256)}, "02" + strings.Repeat("02", 256)},
		{api.Entry{K: api.EPay, Body: "\x00\x01"}, "03 0001"},
		{api.Entry{K: api.EPay, Body: strings.Repeat("\x01", 512)}, "03" + strings.Repeat("01", 512)},
		{api.Entry{K: api.EEvict, Commit: id}, "04" + told},
		{api.Entry{K: api.EEvict}, "04" + strings.Repeat("00", 32)},
		{api.Entry{K: api.ESub, Topic: "c-likes"}, "05 07 632d6c696b6573"},
		{api.Entry{K: api.EUnsub, Topic: "r12345678901"}, "06 0c 723132333435363738393031"},
		{api.Entry{K: api.ECheck, Topic: "s0"}, "07 02 7330"},
		{api.Entry{K: api.ECheck, Topic: "m-a", Body: "\x00\xff"}, "07 03 6d2d61 00ff"},
		{api.Entry{K: api.ECheck, Topic: "la", Body: strings.Repeat("\x9c", 1<<20-64)}, "07 02 6c61" + strings.Repeat("9c", 1<<20-64)},
	} {
		want := strings.ReplaceAll(c.want, " ", "")
		if s, err := entry.Put(c.e); hex.EncodeToString([]byte(s)) != want || err != api.OK {
			t.Errorf("Put(%s): %.60x, %d; want %.60s", brief(c.e), s, err, want)
		}
		wantEntry(t, c.e, api.OK)
	}
}

func TestAllParts(t *testing.T) { // P14.1, P14.2, P14.3, P2: each kind, and what is none, with all that it may have and may not have
	seen := map[api.Errno]int{}
	texts := bodies()
	for _, k := range slices.Concat(kinds, noKinds) {
		for _, name := range names {
			for _, c := range commits {
				for _, b := range texts {
					e := api.Entry{K: k, Topic: name, Commit: c, Body: b}
					want := checkTold(e)
					seen[want]++
					wantEntry(t, e, want)
					if fits(e) { // what may not be put may not be read
						wantOf(t, putTold(e), orZero(e, want), want)
					}
				}
			}
		}
	}
	for _, err := range []api.Errno{api.OK, api.ErrKind, api.ErrForm, api.ErrTopic, api.ErrLong} {
		if seen[err] < 30 {
			t.Errorf("the test's own: %d entries of error %d", seen[err], err)
		}
	}
}

func TestOrderOfErrors(t *testing.T) { // P14.1, P2: by hand, the first one of several
	long := text(1<<20 + 1)
	for _, c := range []struct {
		e    api.Entry
		want api.Errno
	}{
		{api.Entry{}, api.ErrKind},
		{api.Entry{K: 8, Topic: "x", Body: long, Commit: filled(1)}, api.ErrKind},
		{api.Entry{K: -5, Topic: "ca"}, api.ErrKind},
		{api.Entry{K: api.EOwn, Topic: "ca", Body: "a"}, api.ErrForm},
		{api.Entry{K: api.EOwn, Topic: "x", Body: long}, api.ErrForm},
		{api.Entry{K: api.EHead, Commit: filled(1), Body: long}, api.ErrForm},
		{api.Entry{K: api.EPay, Commit: api.Id{31: 1}, Body: "a"}, api.ErrForm},
		{api.Entry{K: api.EEvict, Topic: "x"}, api.ErrForm},
		{api.Entry{K: api.EEvict, Commit: filled(1), Body: long}, api.ErrForm},
		{api.Entry{K: api.ESub, Topic: "x", Body: "a"}, api.ErrForm},
		{api.Entry{K: api.ESub, Body: long}, api.ErrForm},
		{api.Entry{K: api.EUnsub, Topic: "x", Commit: api.Id{1}}, api.ErrForm},
		{api.Entry{K: api.ECheck, Topic: "x", Commit: api.Id{1}, Body: long}, api.ErrForm},
		{api.Entry{K: api.ECheck, Topic: "ca", Commit: api.Id{31: 1}}, api.ErrForm},
		{api.Entry{K: api.ESub}, api.ErrTopic},
		{api.Entry{K: api.EUnsub, Topic: "c-"}, api.ErrTopic},
		{api.Entry{K: api.ECheck}, api.ErrTopic},
		{api.Entry{K: api.ECheck, Topic: "c"}, api.ErrTopic},
		{api.Entry{K: api.ECheck, Topic: "c123456789012", Body: long}, api.ErrTopic},
		{api.Entry{K: api.EOwn}, api.ErrForm},
		{api.Entry{K: api.EHead}, api.ErrForm},
		{api.Entry{K: api.EPay}, api.ErrForm},
		{api.Entry{K: api.EOwn, Body: long}, api.ErrLong},
		{api.Entry{K: api.EHead, Body: long}, api.ErrLong},
		{api.Entry{K: api.EPay, Body: long}, api.ErrLong},
		{api.Entry{K: api.ECheck, Topic: "ca", Body: long}, api.ErrLong},
	} {
		wantEntry(t, c.e, c.want)
		if err := checkTold(c.e); err != c.want {
			t.Errorf("the test's own: %s: %d; want %d", brief(c.e), err, c.want)
		}
	}
}

func TestEndsOfBodies(t *testing.T) { // P14.1, Limits: of each length up to past the end
	for k, most := range map[int]int{api.EOwn: api.MaxHeader, api.EHead: api.MaxHeader, api.EPay: api.MaxPayload} {
		for n := range 1100 {
			want := api.OK
			if n == 0 {
				want = api.ErrForm
			} else if n > most {
				want = api.ErrLong
			}
			e := api.Entry{K: k, Body: text(n)}
			wantEntry(t, e, want)
			wantOf(t, putTold(e), orZero(e, want), want)
		}
	}
	whole := text(api.MaxRecord + 100)
	for _, name := range []string{"ca", "c12345678901"} {
		for d := -100; d <= 100; d++ {
			want := api.OK
			if d > -64 {
				want = api.ErrLong
			}
			e := api.Entry{K: api.ECheck, Topic: name, Body: whole[:api.MaxRecord+d]}
			wantEntry(t, e, want)
			wantOf(t, putTold(e), orZero(e, want), want)
		}
		for n := range 1100 {
			wantEntry(t, api.Entry{K: api.ECheck, Topic: name, Body: whole[:n]}, api.OK)
		}
	}
}

func TestRecordsHold(t *testing.T) { // P14.1, Limits: the longest entry is no longer than a record's Body may be
	for k, most := range most {
		e := api.Entry{K: k, Body: text(most)}
		if hasTopic(k) {
			e.Topic = "c12345678901"
		}
		if s, err := entry.Put(e); err != api.OK || len(s) > api.MaxRecord {
			t.Errorf("Put(%s): %d bytes, %d", brief(e), len(s), err)
		}
	}
}

func TestTopics(t *testing.T) { // P14.1, P14.2: each byte at each place, of each length
	for _, k := range topics {
		for n := range 20 {
			for at := range n {
				for b := range 256 {
					l := bytes.Repeat([]byte{'c'}, n)
					l[at] = byte(b)
					e := api.Entry{K: k, Topic: string(l)}
					want := api.OK
					if !isName.MatchString(e.Topic) {
						want = api.ErrTopic
					}
					wantEntry(t, e, want)
					wantOf(t, putTold(e), orZero(e, want), want)
				}
			}
		}
	}
}

func TestKindsAhead(t *testing.T) { // P14.2: what is no kind is told ahead of all behind it
	for b := range 256 {
		for _, behind := range []string{"", "\x00", "\x01", "\xff", "\x00\x00", "\x02ca", "\x02c", "\x02cab", "\x0dc123456789012", text(31), text(32), text(33), text(256), text(257), text(512), text(513)} {
			s := string([]byte{byte(b)}) + behind
			e, err := entry.Of(s)
			if none := b < 1 || b > 7; (err == api.ErrKind) != none || none && e != (api.Entry{}) {
				t.Errorf("Of(%.40x): %s; %d", s, brief(e), err)
			}
			wantTold(t, s)
		}
	}
}

func TestOrderOfErrorsOfTexts(t *testing.T) { // P14.2: what can't be read, the kind, what is left, then Check's
	for _, c := range []struct {
		s    string
		want api.Errno
	}{
		{"", api.ErrShort},
		{"\x00", api.ErrKind},
		{"\x08", api.ErrKind},
		{"\xff" + text(600), api.ErrKind},
		{"\x01", api.ErrForm},
		{"\x02", api.ErrForm},
		{"\x03", api.ErrForm},
		{"\x01" + text(257), api.ErrLong},
		{"\x02" + text(257), api.ErrLong},
		{"\x03" + text(513), api.ErrLong},
		{"\x04", api.ErrShort},
		{"\x04" + text(31), api.ErrShort},
		{"\x04" + text(33), api.ErrForm},
		{"\x05", api.ErrShort},
		{"\x05\x00", api.ErrTopic},
		{"\x05\x00\x00", api.ErrForm},
		{"\x05\x03ca", api.ErrShort},
		{"\x05\x03xx", api.ErrShort},
		{"\x05\xffca", api.ErrShort},
		{"\x05\x02cab", api.ErrForm},
		{"\x06\x02xxx", api.ErrForm},
		{"\x06\x02xx", api.ErrTopic},
		{"\x06\x0dc123456789012", api.ErrTopic},
		{"\x06\x0dc12345678901", api.ErrShort},
		{"\x07", api.ErrShort},
		{"\x07\x00", api.ErrTopic},
		{"\x07\x00ca", api.ErrTopic},
		{"\x07\x03ca", api.ErrShort},
		{"\x07\xff" + text(254), api.ErrShort},
		{"\x07\xff" + text(255), api.ErrTopic},
		{"\x07\x01c" + text(1<<20), api.ErrTopic},
		{"\x07\x02ca" + text(1<<20-63), api.ErrLong},
	} {
		wantOf(t, c.s, api.Entry{}, c.want)
		if e, err := ofTold(c.s); err != c.want || e != (api.Entry{}) {
			t.Errorf("the test's own: %.40x: %d; want %d", c.s, err, c.want)
		}
	}
}

// some are entries of all kinds, no two alike.
func some() []api.Entry {
	return []api.Entry{
		{K: 1, Body: "a"}, {K: 1, Body: text(60)}, {K: 1, Body: "\x00"}, {K: 1, Body: text(256)},
		{K: 2, Body: "a"}, {K: 2, Body: "\x02ca"}, {K: 2, Body: "\x00\x00"}, {K: 2, Body: text(256)},
		{K: 3, Body: "a"}, {K: 3, Body: "b"}, {K: 3, Body: "ab"}, {K: 3, Body: text(512)},
		{K: 4}, {K: 4, Commit: api.Id{1}}, {K: 4, Commit: api.Id{31: 1}}, {K: 4, Commit: filled(255)},
		{K: 5, Topic: "ca"}, {K: 5, Topic: "cab"}, {K: 5, Topic: "sa"}, {K: 5, Topic: "c12345678901"},
		{K: 6, Topic: "ca"}, {K: 6, Topic: "m-0"}, {K: 6, Topic: "r--------9"}, {K: 6, Topic: "l12345678901"},
		{K: 7, Topic: "ca"}, {K: 7, Topic: "ca", Body: "b"}, {K: 7, Topic: "cab"}, {K: 7, Topic: "cb", Body: "\x00"}, {K: 7, Topic: "c12345678901", Body: text(100)},
	}
}

// somePut are the bytes of all of some.
func somePut() []string {
	var l []string
	for _, e := range some() {
		l = append(l, putTold(e))
	}
	return l
}

func TestCutsAndRests(t *testing.T) { // P14.2: each text cut at each place, and with something left
	for _, e := range some() {
		s := putTold(e)
		wantOf(t, s, e, api.OK)
		for n := range len(s) {
			wantTold(t, s[:n])
			if _, err := entry.Of(s[:n]); err != api.ErrShort && !hasBody(e.K) {
				t.Errorf("Of the first %d of %x: %d", n, s, err)
			}
		}
		for n := 1; n < 600; n++ {
			wantTold(t, s+strings.Repeat("\x00", n))
			wantTold(t, s+text(n))
			if _, err := entry.Of(s + text(n)); err != api.ErrForm && !hasBody(e.K) {
				t.Errorf("Of %x, and %d bytes: %d", s, n, err)
			}
		}
	}
}

func TestTurnedBytes(t *testing.T) { // P14.2, P14.3: each byte at each place, put in, and taken away
	for _, s := range somePut() {
		for at := range min(len(s), 70) {
			for b := range 256 {
				l := []byte(s)
				l[at] = byte(b)
				wantTold(t, string(l))
				wantTold(t, string(slices.Insert([]byte(s), at, byte(b))))
			}
			wantTold(t, string(slices.Delete([]byte(s), at, at+1)))
		}
	}
}

func TestShortTexts(t *testing.T) { // P14.2, P1: all of up to two bytes; of more those that differ in what plays a part
	wantTold(t, "")
	few := []byte{0, 1, 2, 3, 5, 'a', 'c', 'z', '-', '9', 255}
	for a := range 256 {
		wantTold(t, string([]byte{byte(a)}))
		for b := range 256 {
			s := []byte{byte(a), byte(b)}
			wantTold(t, string(s))
			for _, c := range few {
				wantTold(t, string(append(s, c)))
				for _, d := range few {
					wantTold(t, string(append(s, c, d)))
				}
			}
		}
	}
}

func TestTextsOfChance(t *testing.T) { // P14.2, P14.3: what may be put, or nearly, with some bytes turned; the same in each run
	c := rand.New(rand.NewSource(14))
	read := 0
	for range 50000 {
		e := api.Entry{K: 1 + c.Intn(7), Topic: names[c.Intn(10)], Commit: commits[c.Intn(6)], Body: text(c.Intn(520))}
		l := []byte(putTold(e))
		for range c.Intn(3) {
			l[c.Intn(min(len(l), 1+c.Intn(len(l))))] = byte(c.Intn(256))
		}
		wantTold(t, string(l))
		if _, err := ofTold(string(l)); err == api.OK {
			read++
		}
	}
	if read < 10000 {
		t.Errorf("the test's own: %d texts were read", read)
	}
}

func TestNoTwoOfOneText(t *testing.T) { // P14.3
	texts := map[string]api.Entry{}
	for _, e := range some() {
		s, err := entry.Put(e)
		if o, there := texts[s]; there || err != api.OK {
			t.Errorf("%s, and %s: %.40x, %d", brief(e), brief(o), s, err)
		}
		texts[s] = e
	}
}

// allTold is All as the chapter tells it.
func allTold(l []string) ([]api.Entry, int, api.Errno) {
	var told []api.Entry
	for i, s := range l {
		e, err := ofTold(s)
		if err != api.OK {
			return told, i, err
		}
		told = append(told, e)
	}
	return told, len(l), api.OK
}

// wantAll looks at All of l.
func wantAll(t *testing.T, l []string) {
	t.Helper()
	want, wantAt, wantErr := allTold(l)
	got, at, err := entry.All(l)
	if !slices.Equal(got, want) || at != wantAt || err != wantErr {
		t.Errorf("All of %d texts: %d entries, %d, %d; want %d, %d, %d", len(l), len(got), at, err, len(want), wantAt, wantErr)
	}
}

// none are texts of all errors that are no entries.
var none = map[string]api.Errno{"": api.ErrShort, "\x04": api.ErrShort, "\x08": api.ErrKind, "\x00a": api.ErrKind, "\x03": api.ErrForm, "\x05\x02cab": api.ErrForm, "\x05\x02xx": api.ErrTopic, "\x01" + text(257): api.ErrLong}

func TestAll(t *testing.T) { // P14.2: one that is none at each place, and behind it any
	texts := somePut()
	for n := range len(texts) + 1 {
		wantAll(t, texts[:n])
		if l, at, err := entry.All(texts[:n]); !slices.Equal(l, some()[:n]) || at != n || err != api.OK {
			t.Errorf("All of the first %d: %d entries, %d, %d", n, len(l), at, err)
		}
	}
	for s, want := range none {
		for at := range len(texts) + 1 {
			l := slices.Insert(slices.Clone(texts), at, s)
			wantAll(t, l)
			if got, i, err := entry.All(l); !slices.Equal(got, some()[:at]) || i != at || err != want {
				t.Errorf("All, with %.20x at %d: %d entries, %d, %d; want %d", s, at, len(got), i, err, want)
			}
			for other := range none { // the first one counts
				wantAll(t, append(slices.Clone(l), other))
				wantAll(t, slices.Insert(slices.Clone(l), at+1, other))
			}
		}
	}
}

func TestAllOfNothing(t *testing.T) { // P3
	for _, l := range [][]string{nil, {}} {
		if got, at, err := entry.All(l); len(got) != 0 || at != 0 || err != api.OK {
			t.Errorf("All of nothing: %d entries, %d, %d", len(got), at, err)
		}
	}
}

func TestAllOfAny(t *testing.T) { // P14.2: one text may come more than once; all rows of three
	texts := append(somePut()[:5:5], "\x05\x02ca", "\x04"+text(32), "", "\x05\x02xx", "\x09")
	for _, a := range texts {
		for _, b := range texts {
			for _, c := range texts {
				wantAll(t, []string{a, b, c})
			}
		}
	}
}

func TestWhatIsHandedInStays(t *testing.T) { // P4: with what stands behind the list's end
	texts := somePut()
	for n := range len(texts) {
		room := slices.Clone(texts)
		l, _, _ := entry.All(room[:n])
		for i := range l {
			l[i] = api.Entry{K: 99, Topic: "turned"}
		}
		_ = append(l, api.Entry{K: 98})
		if !slices.Equal(room, texts) {
			t.Errorf("All of the first %d: they were changed", n)
		}
	}
}

func TestAnswersAreNew(t *testing.T) { // P4
	texts := somePut()
	a, _, _ := entry.All(texts)
	b, _, _ := entry.All(texts)
	for i := range a {
		a[i] = api.Entry{}
	}
	texts[0], texts[3] = "", ""
	c, at, err := entry.All(texts)
	if !slices.Equal(b, some()) || len(c) != 0 || at != 0 || err != api.ErrShort {
		t.Errorf("All: changed behind: %d, %d, %d", len(c), at, err)
	}
}

func TestAgain(t *testing.T) { // P5: a call hangs on its arguments alone
	l := append(some(), api.Entry{}, api.Entry{K: 5}, api.Entry{K: 3}, api.Entry{K: 4, Body: "a"}, api.Entry{K: 1, Body: text(257)})
	for i, e := range l {
		s, err := entry.Put(e)
		entry.Of("\x05\x02ca")
		entry.All([]string{"\x03a", "\x00"})
		entry.Put(l[(i*7+3)%len(l)])
		if again, err2 := entry.Put(e); again != s || err2 != err {
			t.Errorf("Put(%s): %.40x, %d; then %.40x, %d", brief(e), s, err, again, err2)
		}
	}
}

func TestLongOnesEnd(t *testing.T) { // P1
	long := strings.Repeat("\x07", 1<<26)
	for _, k := range slices.Concat(kinds, noKinds) {
		for _, e := range []api.Entry{{K: k, Topic: long}, {K: k, Body: long}, {K: k, Topic: "ca", Body: long}, {K: k, Topic: long, Body: long, Commit: filled(3)}} {
			wantEntry(t, e, checkTold(e))
		}
	}
	for b := range 9 {
		wantTold(t, string([]byte{byte(b)})+"\x02ca"+long)
		wantTold(t, string([]byte{byte(b)})+long)
	}
	many := slices.Repeat(somePut(), 1<<13)
	wantAll(t, many)
	wantAll(t, append(many, "\x09"))
}
