package header_test

import (
	"bytes"
	"crypto/sha256"
	"encoding/binary"
	"encoding/hex"
	"fmt"
	"math"
	"math/rand"
	"reflect"
	"regexp"
	"slices"
	"strings"
	"testing"

	"petrel/api"
	"petrel/header"
)

// id is an id whose bytes are all x, but the last one.
func id(x, last byte) api.Id {
	l := api.Id(bytes.Repeat([]byte{x}, 32))
	l[31] = last
	return l
}

// ids are n ids that rise, from the zero one on.
func ids(n int) []api.Id {
	var l []api.Id
	for i := range n {
		var x api.Id
		binary.BigEndian.PutUint32(x[28:], uint32(i))
		l = append(l, x)
	}
	return l
}

// root is a header without parents, full one that has as many as may be, each with parts of no small size.
func root() api.Header {
	return api.Header{Height: 1, Topic: "c-likes", Author: 3, Seq: 0x01020304, Size: 0x0102, Commit: id(7, 9)}
}

func full() api.Header {
	return api.Header{Parents: []api.Id{{}, id(1, 2), id(1, 3), id(200, 0)}, Height: 0x05060708, Topic: "s0123456789z", Author: 255, Seq: 0x090a0b0c, Size: 512, Commit: id(250, 251)}
}

// with is h with some parts set.
func with(h api.Header, set ...func(h *api.Header)) api.Header {
	for _, s := range set {
		s(&h)
	}
	return h
}

var name = regexp.MustCompile(`^[cslmr][a-z0-9-]{0,10}[a-z0-9]$`)

// checkTold is Check as the chapter tells it, sentence by sentence.
func checkTold(h api.Header) api.Errno {
	if len(h.Parents) > 4 {
		return api.ErrFull
	}
	for i := 1; i < len(h.Parents); i++ {
		if bytes.Compare(h.Parents[i-1][:], h.Parents[i][:]) >= 0 {
			return api.ErrForm
		}
	}
	if h.Height < 1 || h.Height > 1<<30 {
		return api.ErrHeight
	}
	if len(h.Parents) == 0 && h.Height != 1 || len(h.Parents) > 0 && h.Height == 1 {
		return api.ErrHeight
	}
	if !name.MatchString(h.Topic) {
		return api.ErrTopic
	}
	if h.Author < 0 || h.Author > 255 || h.Seq < 1 || h.Seq > 1<<30 || h.Size < 1 || h.Size > 512 {
		return api.ErrRange
	}
	return api.OK
}

// putTold is the bytes of h, whether or not it may be one, as long as its parts fit.
func putTold(h api.Header) string {
	l := []byte{byte(len(h.Parents))}
	for _, p := range h.Parents {
		l = append(l, p[:]...)
	}
	l = binary.BigEndian.AppendUint32(l, uint32(h.Height))
	l = append(append(l, byte(len(h.Topic))), h.Topic...)
	l = binary.BigEndian.AppendUint32(append(l, byte(h.Author)), uint32(h.Seq))
	l = binary.BigEndian.AppendUint16(l, uint16(h.Size))
	return string(append(l, h.Commit[:]...))
}

// fits tells whether putTold tells all of h, in no more bytes than may be.
func fits(h api.Header) bool {
	n := func(n, bits int) bool { return n >= 0 && n>>bits == 0 }
	return n(len(h.Parents), 8) && n(h.Height, 32) && n(len(h.Topic), 8) && n(h.Author, 8) && n(h.Seq, 32) && n(h.Size, 16) && len(putTold(h)) <= 256
}

// ofTold is Of as the chapter tells it, place by place.
func ofTold(s string) (api.Header, api.Errno) {
	if len(s) > 256 {
		return api.Header{}, api.ErrLong
	}
	at, short := 0, false
	cut := func(n int) []byte {
		if short = short || len(s)-at < n; short {
			return make([]byte, n)
		}
		at += n
		return []byte(s[at-n : at])
	}
	var h api.Header
	for range cut(1)[0] {
		h.Parents = append(h.Parents, api.Id(cut(32)))
	}
	h.Height = int(binary.BigEndian.Uint32(cut(4)))
	h.Topic = string(cut(int(cut(1)[0])))
	h.Author = int(cut(1)[0])
	h.Seq = int(binary.BigEndian.Uint32(cut(4)))
	h.Size = int(binary.BigEndian.Uint16(cut(2)))
	h.Commit = api.Id(cut(32))
	switch {
	case short:
		return api.Header{}, api.ErrShort
	case at != len(s):
		return api.Header{}, api.ErrForm
	}
	return orZero(h, checkTold(h)), checkTold(h)
}

// orZero is h, or the zero one beside an error.
func orZero(h api.Header, e api.Errno) api.Header {
	if e != api.OK {
		return api.Header{}
	}
	return h
}

// sameTold holds a against b by all that they have.
func sameTold(a, b api.Header) bool {
	if len(a.Parents) == 0 {
		a.Parents = nil
	}
	if len(b.Parents) == 0 {
		b.Parents = nil
	}
	return reflect.DeepEqual(a, b)
}

func brief(h api.Header) string {
	return fmt.Sprintf("%d Parents, Height %d, Topic %.20q, Author %d, Seq %d, Size %d, Commit %x", len(h.Parents), h.Height, h.Topic, h.Author, h.Seq, h.Size, h.Commit[:2])
}

// wantHeader looks at all that is told of h: its error, its bytes, its id, and what is read of its bytes.
func wantHeader(t *testing.T, h api.Header, want api.Errno) {
	t.Helper()
	if e := header.Check(h); e != want {
		t.Errorf("Check(%s): %d; want %d", brief(h), e, want)
	}
	s, e := header.Put(h)
	if e != want {
		t.Errorf("Put(%s): %d; want %d", brief(h), e, want)
	}
	x, e := header.Ident(h)
	if e != want {
		t.Errorf("Ident(%s): %d; want %d", brief(h), e, want)
	}
	if want != api.OK {
		if s != "" || x != (api.Id{}) {
			t.Errorf("%s: %x, %x beside %d", brief(h), s, x, want)
		}
		return
	}
	if s != putTold(h) {
		t.Errorf("Put(%s): %x; want %x", brief(h), s, putTold(h))
	}
	if told := sha256.Sum256([]byte(putTold(h))); x != told {
		t.Errorf("Ident(%s): %x; want %x", brief(h), x, told)
	}
	wantOf(t, s, h, api.OK)
}

// wantOf looks at what is read of s.
func wantOf(t *testing.T, s string, want api.Header, wantE api.Errno) {
	t.Helper()
	h, e := header.Of(s)
	if e != wantE || !sameTold(h, want) {
		t.Errorf("Of(%.60x): %s; %d; want %s; %d", s, brief(h), e, brief(want), wantE)
	}
	if e != api.OK {
		return
	}
	if again, e := header.Put(h); again != s || e != api.OK { // P8.4
		t.Errorf("Put of what Of(%x) is: %x, %d", s, again, e)
	}
}

// parts are, part by part, ways to set it: values at its ends and past them.
func parts() [][]func(h *api.Header) {
	var parents, heights, topics, authors, seqs, sizes, commits []func(h *api.Header)
	for _, l := range lists() {
		parents = append(parents, func(h *api.Header) { h.Parents = l })
	}
	for _, n := range numbers {
		heights = append(heights, func(h *api.Header) { h.Height = n })
		authors = append(authors, func(h *api.Header) { h.Author = n })
		seqs = append(seqs, func(h *api.Header) { h.Seq = n })
		sizes = append(sizes, func(h *api.Header) { h.Size = n })
	}
	for _, s := range names() {
		topics = append(topics, func(h *api.Header) { h.Topic = s })
	}
	for _, x := range []api.Id{{}, {31: 1}, {0: 255}, id(255, 255)} {
		commits = append(commits, func(h *api.Header) { h.Commit = x })
	}
	return [][]func(h *api.Header){parents, heights, topics, authors, seqs, sizes, commits}
}

// numbers are of both signs, at the ends that the chapter names, and at those of what some bytes can tell.
var numbers = []int{
	0, 1, 2, -1, -2, 3, 254, 255, 256, 257, 511, 512, 513, 65535, 65536, 65537, 1<<16 + 512, 1 << 24, 1<<30 - 1, 1 << 30, 1<<30 + 1, 1<<31 - 1, 1 << 31,
	1<<32 - 1, 1 << 32, 1<<32 + 1, -1 << 32, 1<<32 - 1<<16, math.MaxInt, math.MinInt, math.MinInt + 1,
}

// names are names, and what is none.
func names() []string {
	return []string{
		"c-likes", "s0", "la", "m12345678901", "r--x", "", "c", "x-likes", "c-", "C-likes", "c likes", "cé", "c\x00", "c-likes\n", " c-likes", "m123456789012", "c-like-", "t1", "cA",
		strings.Repeat("c", 11), strings.Repeat("c", 12), strings.Repeat("c", 13), strings.Repeat("c", 60), strings.Repeat("c", 255), strings.Repeat("c", 256), strings.Repeat("c", 262),
	}
}

// lists are sets of ids, and lists that are none.
func lists() [][]api.Id {
	a, b, c := id(0, 1), id(0, 2), id(128, 0)
	return [][]api.Id{
		nil, {}, {{}}, {a}, {c}, {a, b}, {a, c}, {a, b, c}, {{}, a, b, c}, ids(3), ids(4),
		{a, a}, {b, a}, {c, a}, {a, b, b}, {a, a, b}, {a, c, b}, {{}, {}}, {a, {}}, {{}, a, c, b}, {a, a, a, a},
		ids(5), ids(6), ids(255), ids(256), ids(257), append(ids(4), ids(1)...), slices.Repeat([]api.Id{a}, 5), {c, b, a, {}, c},
	}
}

func TestExample(t *testing.T) { // P8.2
	for _, s := range []string{"c0", "c-likes", "r12345678901"} {
		b, e := header.Put(api.Header{Height: 1, Topic: s, Seq: 1, Size: 1})
		if !strings.HasPrefix(b, "\x00\x00\x00\x00\x01") || e != api.OK {
			t.Errorf("a header without parents: %x, %d", b, e)
		}
	}
}

func TestBytesByHand(t *testing.T) { // P8.2: written out
	one, two, commit := strings.Repeat("11", 32), strings.Repeat("22", 31)+"00", strings.Repeat("c7", 31)+"0a"
	nought := strings.Repeat("00", 32)
	for _, c := range []struct {
		h    api.Header
		want string
		id   string
	}{
		{
			api.Header{Height: 1, Topic: "c0", Seq: 1, Size: 1},
			"00 00000001 02 6330 00 00000001 0001" + nought,
			"cca673056d891590f6de7ef5a75e0ae9a5ab5bdd656bfb5e10abc2bb1ddbe830",
		},
		{
			api.Header{Parents: []api.Id{id(0x11, 0x11), id(0x22, 0)}, Height: 0x01020304, Topic: "r-lines", Author: 5, Seq: 0x05060708, Size: 0x0109, Commit: id(0xc7, 10)},
			"02" + one + two + "01020304 07 722d6c696e6573 05 05060708 0109" + commit,
			"0992cb616e604db265d9b3f80719c3d0a15c89c0f4aefbac7d7d3444b81fa18e",
		},
		{
			api.Header{Parents: []api.Id{{}}, Height: 1 << 30, Topic: "m23456789012", Author: 255, Seq: 1 << 30, Size: 512, Commit: id(0xc7, 10)},
			"01" + nought + "40000000 0c 6d3233343536373839303132 ff 40000000 0200" + commit,
			"2c79eb2aac5e38dcbdb06628aa0efa9d6989c2776d2b512d60a7488a0db0106d",
		},
	} {
		want := strings.ReplaceAll(c.want, " ", "")
		if s, e := header.Put(c.h); hex.EncodeToString([]byte(s)) != want || e != api.OK {
			t.Errorf("Put(%s): %x, %d; want %s", brief(c.h), s, e, want)
		}
		if x, _ := header.Ident(c.h); hex.EncodeToString(x[:]) != c.id {
			t.Errorf("Ident(%s): %x; want %s", brief(c.h), x, c.id)
		}
		wantHeader(t, c.h, api.OK)
	}
}

func TestPairsOfParts(t *testing.T) { // P8.1, P8.2, P8.4, P2: all values of each two parts
	seen := map[api.Errno]int{}
	all := parts()
	for i := range all {
		for j := range i {
			for _, one := range all[i] {
				for _, other := range all[j] {
					for _, h := range []api.Header{root(), full()} {
						h = with(h, one, other)
						want := checkTold(h)
						seen[want]++
						wantHeader(t, h, want)
						if fits(h) { // what may not be put may not be read
							wantOf(t, putTold(h), orZero(h, want), want)
						}
					}
				}
			}
		}
	}
	for _, e := range []api.Errno{api.OK, api.ErrFull, api.ErrForm, api.ErrHeight, api.ErrTopic, api.ErrRange} {
		if seen[e] < 100 {
			t.Errorf("the test's own: %d headers of error %d", seen[e], e)
		}
	}
}

func TestOrderOfErrors(t *testing.T) { // P8.1, P2: each part right or wrong in each way, all together
	falls := []func(h *api.Header){
		func(h *api.Header) {}, func(h *api.Header) { h.Parents = ids(5) }, func(h *api.Header) { h.Parents = []api.Id{{5}, {4}, {3}, {2}, {1}} },
		func(h *api.Header) { h.Parents = []api.Id{{2}, {1}} }, func(h *api.Header) { h.Parents = nil }, func(h *api.Header) { h.Parents = ids(1) },
	}
	heights := []int{1, 2, 0, 1<<30 + 1}
	for _, parents := range falls {
		for _, height := range heights {
			for bits := range 16 {
				h := with(full(), parents)
				h.Height = height
				if bits&1 != 0 {
					h.Topic = "c-"
				}
				if bits&2 != 0 {
					h.Author = -1
				}
				if bits&4 != 0 {
					h.Seq = 0
				}
				if bits&8 != 0 {
					h.Size = 513
				}
				wantHeader(t, h, checkTold(h))
			}
		}
	}
	for _, c := range []struct {
		h    api.Header
		want api.Errno
	}{
		{api.Header{}, api.ErrHeight},
		{api.Header{Height: 1}, api.ErrTopic},
		{api.Header{Height: 1, Topic: "c0"}, api.ErrRange},
		{api.Header{Parents: slices.Repeat([]api.Id{{1}}, 5)}, api.ErrFull},
		{api.Header{Parents: slices.Repeat([]api.Id{{1}}, 4)}, api.ErrForm},
		{api.Header{Parents: ids(4)}, api.ErrHeight},
		{api.Header{Parents: ids(4), Height: 2, Seq: -1, Size: -1, Author: -1}, api.ErrTopic},
	} {
		wantHeader(t, c.h, c.want)
	}
}

func TestEndsOfParents(t *testing.T) { // P8.1, Limits
	for n := range 300 {
		want := api.OK
		if n > api.MaxParents {
			want = api.ErrFull
		}
		h := with(full(), func(h *api.Header) { h.Parents = ids(n) })
		if n == 0 {
			h.Height = 1
		}
		wantHeader(t, h, want)
		if fits(h) {
			wantOf(t, putTold(h), orZero(h, want), want)
		}
	}
}

func TestParentsMustRise(t *testing.T) { // P8.1: all lists of two, three of these, and a whole list that is turned
	l := []api.Id{{}, {31: 1}, {15: 1}, {0: 1}, {0: 0x80}, id(255, 254), id(255, 255)}
	look := func(rise bool, parents ...api.Id) {
		t.Helper()
		want := api.ErrForm
		if rise {
			want = api.OK
		}
		h := with(full(), func(h *api.Header) { h.Parents = parents })
		wantHeader(t, h, want)
		wantOf(t, putTold(h), orZero(h, want), want)
	}
	for i := range l {
		look(true, l[i])
		for j := range l {
			look(i < j, l[i], l[j])
			for k := range l {
				look(i < j && j < k, l[i], l[j], l[k])
			}
		}
	}
	for i := range 4 {
		for j := range i {
			p := ids(4)
			p[i], p[j] = p[j], p[i]
			look(false, p...)
			p[i] = p[j]
			look(false, p...)
		}
	}
}

func TestEndsOfHeights(t *testing.T) { // P8.1, Limits
	for n, want := range map[int]api.Errno{
		-1: api.ErrHeight, 0: api.ErrHeight, 1: api.ErrHeight, 2: api.OK, api.MaxHeight: api.OK, api.MaxHeight + 1: api.ErrHeight, 1<<32 + 2: api.ErrHeight, math.MaxInt: api.ErrHeight, math.MinInt: api.ErrHeight,
	} {
		for k := 1; k <= api.MaxParents; k++ {
			wantHeader(t, with(full(), func(h *api.Header) { h.Height, h.Parents = n, ids(k) }), want)
		}
		want = api.ErrHeight
		if n == 1 {
			want = api.OK
		}
		wantHeader(t, with(full(), func(h *api.Header) { h.Height, h.Parents = n, nil }), want)
	}
}

func TestEndsOfNumbers(t *testing.T) { // P8.1, Limits: each number from below its least to past its most
	for n := -3; n < 600; n++ {
		for _, base := range []api.Header{root(), full()} {
			author, seq, size := base, base, base
			author.Author, seq.Seq, size.Size = n, n, n
			wantHeader(t, author, checkTold(author))
			wantHeader(t, seq, checkTold(seq))
			wantHeader(t, size, checkTold(size))
			if (header.Check(author) == api.OK) != (n >= 0 && n < 256) || (header.Check(seq) == api.OK) != (n >= 1) || (header.Check(size) == api.OK) != (n >= 1 && n <= 512) {
				t.Errorf("Author, Seq, Size %d: %d, %d, %d", n, header.Check(author), header.Check(seq), header.Check(size))
			}
		}
	}
	for n := 1<<30 - 5; n < 1<<30+5; n++ {
		h := with(root(), func(h *api.Header) { h.Seq = n })
		wantHeader(t, h, checkTold(h))
		wantOf(t, putTold(h), orZero(h, checkTold(h)), checkTold(h))
	}
}

func TestOrderOfErrorsOfTexts(t *testing.T) { // P8.2: too long, what can't be read, what is left, then Check's
	nine := putTold(with(full(), func(h *api.Header) { h.Parents = ids(5) }))
	down := putTold(with(full(), func(h *api.Header) { h.Parents = []api.Id{{2}, {1}} }))
	named := putTold(with(root(), func(h *api.Header) { h.Topic = strings.Repeat("c", 13) }))
	noughts := strings.Repeat("\x00", 300)
	for _, c := range []struct {
		s    string
		want api.Errno
	}{
		{"", api.ErrShort},
		{"\x00", api.ErrShort},
		{"\xff", api.ErrShort},
		{noughts[:44], api.ErrShort},
		{noughts[:45], api.ErrHeight},
		{noughts[:46], api.ErrForm},
		{noughts[:256], api.ErrForm},
		{noughts[:257], api.ErrLong},
		{"\xff" + noughts[:255], api.ErrShort},
		{"\xff" + noughts[:256], api.ErrLong},
		{putTold(root()) + noughts[:256-len(putTold(root()))], api.ErrForm},
		{putTold(root()) + noughts[:257-len(putTold(root()))], api.ErrLong},
		{nine, api.ErrFull},
		{nine + "\x00", api.ErrForm},
		{nine[:len(nine)-1], api.ErrShort},
		{down, api.ErrForm},
		{down[:len(down)-1], api.ErrShort},
		{named, api.ErrTopic},
		{named + "\x00", api.ErrForm},
		{named[:len(named)-1], api.ErrShort},
		{named[:10], api.ErrShort},
	} {
		wantOf(t, c.s, api.Header{}, c.want)
		if h, e := ofTold(c.s); e != c.want || !sameTold(h, api.Header{}) {
			t.Errorf("the test's own: %.40x: %d; want %d", c.s, e, c.want)
		}
	}
}

func TestLongTexts(t *testing.T) { // P8.2, Limits: of each length, ErrLong from one byte past MaxHeader on
	for n := range 2000 {
		for _, b := range []string{"\x00", "\x01", "\x05", "\xff"} {
			s := strings.Repeat(b, n)
			h, e := header.Of(s)
			if (e == api.ErrLong) != (n > api.MaxHeader) || e == api.OK || !sameTold(h, api.Header{}) {
				t.Errorf("Of %d bytes %x: %s; %d", n, b, brief(h), e)
			}
			told, want := ofTold(s)
			wantOf(t, s, told, want)
		}
	}
}

func TestCutsAndRests(t *testing.T) { // P8.2: each text cut at each place, and with something left
	for _, parents := range lists()[:11] {
		for _, topic := range names()[:5] {
			h := with(full(), func(h *api.Header) { h.Parents, h.Topic = parents, topic })
			if len(parents) == 0 {
				h.Height = 1
			}
			s := putTold(h)
			wantOf(t, s, h, api.OK)
			for n := range len(s) {
				wantOf(t, s[:n], api.Header{}, api.ErrShort)
			}
			for n := len(s) + 1; n <= 300; n++ {
				want := api.ErrForm
				if n > api.MaxHeader {
					want = api.ErrLong
				}
				wantOf(t, s+strings.Repeat("\x00", n-len(s)), api.Header{}, want)
				wantOf(t, s+strings.Repeat(s, 7)[:n-len(s)], api.Header{}, want)
			}
		}
	}
}

func TestTurnedBytes(t *testing.T) { // P8.2, P8.4: each byte at each place, put in, and taken away
	for _, h := range []api.Header{root(), full(), {Parents: ids(1), Height: 2, Topic: "r0", Seq: 1, Size: 1}} {
		s := putTold(h)
		for at := range len(s) {
			for b := range 256 {
				l := []byte(s)
				l[at] = byte(b)
				h, e := ofTold(string(l))
				wantOf(t, string(l), h, e)
				l = slices.Insert([]byte(s), at, byte(b))
				h, e = ofTold(string(l))
				wantOf(t, string(l), h, e)
			}
			l := slices.Delete([]byte(s), at, at+1)
			h, e := ofTold(string(l))
			wantOf(t, string(l), h, e)
		}
	}
}

func TestTextsOfChance(t *testing.T) { // P8.2, P8.4: what may be put, with some bytes turned; the same in each run
	c := rand.New(rand.NewSource(8))
	read := 0
	for range 50000 {
		h := with(root(), func(h *api.Header) {
			h.Topic, h.Seq, h.Size = "l"+strings.Repeat("z", 1+c.Intn(12)), c.Intn(1<<30+2), c.Intn(514)
		})
		if n := c.Intn(6); n > 0 {
			h.Parents, h.Height = ids(n), 2+c.Intn(1<<30)
		}
		l := []byte(putTold(h))
		for range c.Intn(3) {
			l[c.Intn(len(l))] = byte(c.Intn(256))
		}
		h, e := ofTold(string(l))
		wantOf(t, string(l), h, e)
		if e == api.OK {
			read++
		}
	}
	if read < 5000 {
		t.Errorf("the test's own: %d texts were read", read)
	}
}

func TestNoTwoOfOneText(t *testing.T) { // P8.4: nor of one id
	texts, named := map[string]api.Header{}, map[api.Id]api.Header{}
	all := parts()
	for i := range all {
		for j := range i {
			for _, one := range all[i] {
				for _, other := range all[j] {
					h := with(full(), one, other)
					s, e := header.Put(h)
					if e != api.OK {
						continue
					}
					x, _ := header.Ident(h)
					if o, there := texts[s]; there && !sameTold(o, h) {
						t.Errorf("%s, and %s: both are %x", brief(h), brief(o), s)
					}
					if o, there := named[x]; there && !sameTold(o, h) {
						t.Errorf("%s, and %s: both have the id %x", brief(h), brief(o), x)
					}
					texts[s], named[x] = h, h
				}
			}
		}
	}
}

// odd are headers that differ in one thing each; most can't be.
func odd() []api.Header {
	l := []api.Header{
		{}, {Parents: []api.Id{{}}}, {Parents: []api.Id{{}, {}}}, {Parents: []api.Id{{1}, {2}}}, {Parents: []api.Id{{2}, {1}}}, {Parents: []api.Id{{1}}}, {Parents: []api.Id{{31: 1}}}, {Parents: []api.Id{{1}, {31: 2}}}, {Parents: ids(5)}, {Parents: ids(300)},
		{Height: 1}, {Height: -1}, {Height: 1 << 32}, {Height: math.MinInt}, {Topic: "c"}, {Topic: "d"}, {Topic: "c\x00"}, {Topic: "\x00"}, {Topic: strings.Repeat("c", 300)},
		{Author: 1}, {Author: -1}, {Author: 256}, {Author: 1 << 32}, {Seq: 1}, {Seq: -1}, {Seq: 1 << 32}, {Size: 1}, {Size: -1}, {Size: 65536}, {Size: 1 << 32}, {Commit: api.Id{31: 1}}, {Commit: api.Id{1}}, {Commit: api.Id{0: 1, 31: 1}},
		{Height: 1, Author: 2, Seq: 3, Size: 4}, {Height: 2, Author: 1, Seq: 3, Size: 4}, {Height: 1, Author: 2, Seq: 4, Size: 3}, {Height: 1, Author: 3, Seq: 2, Size: 4},
	}
	all := parts()
	for _, h := range []api.Header{root(), full()} {
		l = append(l, h, with(h, all[0][3]), with(h, all[1][15]), with(h, all[2][1]), with(h, all[3][1]), with(h, all[4][1]), with(h, all[5][1]), with(h, all[6][3]))
	}
	return l
}

func TestSame(t *testing.T) { // P8.3
	l, again := odd(), odd()
	for i, a := range l {
		for j, b := range again {
			if got := header.Same(a, b); got != (i == j) || got != sameTold(a, b) {
				t.Errorf("Same(%s; %s): %t", brief(a), brief(b), got)
			}
		}
	}
	for _, a := range l {
		b := a
		if len(a.Parents) == 0 {
			b.Parents = []api.Id{}
		} else {
			b.Parents = append(make([]api.Id, 0, 400), a.Parents...)
		}
		if !header.Same(a, b) || !header.Same(b, a) || !header.Same(b, b) {
			t.Errorf("Same(%s, and a copy of it): false", brief(a))
		}
	}
}

func TestAhead(t *testing.T) { // P8.3, P8.4: by heights of any size, then by ids; an order in which no two stand alike
	type at struct {
		height int
		id     api.Id
	}
	var l []at // as they stand
	for _, height := range []int{math.MinInt, -1 << 40, -2, -1, 0, 1, 2, 255, 256, 1 << 30, 1<<30 + 1, 1<<32 + 1, math.MaxInt - 1, math.MaxInt} {
		for _, id := range []api.Id{{}, {31: 1}, {31: 2}, {30: 1}, {16: 1}, {15: 255}, {1: 1}, {0: 1}, {0: 127, 31: 9}, {0: 128}, id(255, 0), id(255, 255)} {
			l = append(l, at{height, id})
		}
	}
	for i, a := range l {
		for j, b := range l {
			if got := header.Ahead(a.height, a.id, b.height, b.id); got != (i < j) {
				t.Errorf("Ahead(%d, %x, %d, %x): %t", a.height, a.id, b.height, b.id, got)
			}
		}
	}
}

func TestAheadByEachByte(t *testing.T) { // P8.3
	for at := range 32 {
		for b := range 256 {
			for _, c := range []int{b - 1, b, b + 1, 255 - b} {
				x, y := id(9, 9), id(9, 9)
				x[at], y[at] = byte(b), byte(c)
				if got := header.Ahead(7, x, 7, y); got != (byte(b) < byte(c)) {
					t.Errorf("Ahead(7, %x, 7, %x): %t", x, y, got)
				}
			}
		}
	}
}

func TestWhatIsHandedInStays(t *testing.T) { // P4: with what stands behind the list's end
	for _, list := range lists() {
		for _, height := range []int{1, 2} {
			room := append(slices.Clone(list), id(77, 77), id(78, 78))
			h := with(full(), func(h *api.Header) { h.Parents, h.Height = room[:len(list)], height })
			header.Check(h)
			header.Put(h)
			header.Ident(h)
			header.Same(h, h)
			if !slices.Equal(room, append(slices.Clone(list), id(77, 77), id(78, 78))) {
				t.Errorf("%d Parents: they were changed", len(list))
			}
		}
	}
}

func TestAnswersAreNew(t *testing.T) { // P4: two of one text share nothing
	s := putTold(full())
	a, _ := header.Of(s)
	b, _ := header.Of(s)
	a.Parents[0], a.Parents[2] = id(9, 9), id(9, 9)
	_ = append(a.Parents[:1], id(9, 9))
	if c, _ := header.Of(s); !sameTold(b, full()) || !sameTold(c, full()) {
		t.Errorf("Of(%x): it is changed behind: %s", s, brief(b))
	}
}

func TestAgain(t *testing.T) { // P5: a call hangs on its arguments alone
	l := odd()
	for i, h := range l {
		s, e := header.Put(h)
		header.Of("\x01")
		header.Ident(l[(i*7+3)%len(l)])
		if again, e2 := header.Put(h); again != s || e2 != e {
			t.Errorf("Put(%s): %x, %d; then %x, %d", brief(h), s, e, again, e2)
		}
	}
}

func TestLongOnesEnd(t *testing.T) { // P1
	long := strings.Repeat("c", 1<<26)
	many := make([]api.Id, 1<<20)
	for _, h := range []api.Header{
		{Parents: many}, {Topic: long}, {Height: 1, Topic: long}, {Parents: many, Height: math.MinInt, Topic: long, Author: math.MaxInt, Seq: math.MinInt, Size: math.MaxInt},
		with(root(), func(h *api.Header) { h.Topic = long }), with(full(), func(h *api.Header) { h.Parents = many }),
	} {
		wantHeader(t, h, checkTold(h))
		if !header.Same(h, h) {
			t.Errorf("Same of %s and itself", brief(h))
		}
	}
	wantOf(t, long, api.Header{}, api.ErrLong)
}
