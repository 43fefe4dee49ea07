package topic_test

import (
	"math"
	"regexp"
	"slices"
	"strings"
	"testing"

	"petrel/api"
	"petrel/topic"
)

// kinds are the kinds by their letters, as the document has them.
var kinds = map[byte]int{'c': api.TTally, 's': api.TBag, 'l': api.TLast, 'm': api.TMulti, 'r': api.TSeq}

// noKinds are numbers of which there is no kind.
var noKinds = []int{api.TNone, api.TSeq + 1, 7, 8, 255, 256, 257, 'c', -1, -5, 1 << 32, 1<<32 + 1, 1<<63 - 256, math.MinInt32, math.MaxInt32, math.MinInt, math.MinInt + 1, math.MaxInt - 1, math.MaxInt}

// told is a topic's name as the chapter tells it, its letter apart from its rest.
var told = regexp.MustCompile(`\A([cslmr])([a-z0-9-]{0,10}[a-z0-9])\z`)

const allSigns = "abcdefghijklmnopqrstuvwxyz0123456789-"

// kindTold is the kind of s as the chapter tells it.
func kindTold(s string) int {
	if !told.MatchString(s) {
		return api.TNone
	}
	return kinds[s[0]]
}

// want looks at all that is told of s, as a name and as a rest.
func want(t *testing.T, s string, kind int) {
	t.Helper()
	e := api.OK
	if kind == api.TNone {
		e = api.ErrTopic
	}
	if k := topic.Kind(s); k != kind {
		t.Errorf("Kind(%.40q): %d; want %d", s, k, kind)
	}
	if got := topic.Check(s); got != e {
		t.Errorf("Check(%.40q): %d; want %d", s, got, e)
	}
}

// wantName looks at Name of a kind that there is.
func wantName(t *testing.T, kind int, rest string, fits bool) {
	t.Helper()
	s, e := topic.Name(kind, rest)
	switch {
	case fits && (s != topic.Letter(kind)+rest || e != api.OK):
		t.Errorf("Name(%d, %.40q): %.40q, %d; want a name", kind, rest, s, e)
	case !fits && (s != "" || e != api.ErrTopic):
		t.Errorf("Name(%d, %.40q): %.40q, %d; want none", kind, rest, s, e)
	}
}

// names are some of each kind, of each length, and at the ends that the chapter names.
func names() map[string]int {
	m := map[string]int{}
	for letter, kind := range kinds {
		for _, rest := range []string{
			"a", "z", "0", "9", "c", "s", "l", "m", "r", "likes", "-likes", "-a", "--a", "a-b", "a--b", "-0-", "12345", "c-likes",
			"abcdefghij", "abcdefghijk", "----------a", "00000000000", "zzzzzzzzzzz", "-a-b-c-d-e9",
		} {
			if !strings.HasSuffix(rest, "-") {
				m[string(letter)+rest] = kind
			}
		}
	}
	return m
}

// wrongs are none, each nearly a name, or far from one.
func wrongs() []string {
	l := []string{"", "c", "s", "l", "m", "r", "a", "z", "-", "0", "\x00", "é", "世", "\xff"}
	for _, letter := range "cslmr" {
		for _, rest := range []string{
			"-", "--", "a-", "-a-", "abcdefghij-", "-----------", "abcdefghijkl", "abcdefghijk-", "-abcdefghijk", "a-b-c-d-e-f-g",
			"A", "Z", "aB", "_", "a_b", " ", " a", "a ", "a b", "\n", "a\n", "a\x00", "\x00", "\x7f", "a.b", "a/b", "a:", "a`", "a{", "a@b", "a[", "a,b", "a+b", "a*",
			"\x80", "\xff", "a\xe9", "é", "aé", "éa", "世", "a世", "\xc3", "a\xc3", "\xed\xa0\x80", "\ufffd", "\ufeffa", "á", "а", "ａ", "０", "a‐b", "–a", "ſ", "\u212a",
			strings.Repeat("a", 1000), strings.Repeat("a", 256), strings.Repeat("a", 1<<16+1),
		} {
			l = append(l, string(letter)+rest)
		}
	}
	for _, letter := range "abdefghijknopqtuvwxyz0123456789-CSLMR_ \n.é\ufffd\x00" {
		l = append(l, string(letter)+"a", string(letter)+"-likes", string(letter)+"c-likes")
	}
	return append(l, "\xe3a", "\xf3a", "\xec-likes", "\x80a", "\xffa", "C-LIKES", " c-likes", "c-likes ", "c-likes\n", "\nc-likes", "petrel")
}

func TestExamples(t *testing.T) { // P5.1
	want(t, "c-likes", api.TTally)
	want(t, "ca", api.TTally)
	for s, kind := range map[string]int{"s-tags": api.TBag, "l-title": api.TLast, "m-title": api.TMulti, "r-list": api.TSeq, "c-": api.TNone, "c": api.TNone} {
		want(t, s, kind)
	}
}

func TestNames(t *testing.T) { // P5.1
	for s, kind := range names() {
		want(t, s, kind)
		if kind != kindTold(s) {
			t.Errorf("the test's own: %q", s)
		}
	}
}

func TestWrongNames(t *testing.T) { // P5.1
	for _, s := range wrongs() {
		want(t, s, api.TNone)
		if kindTold(s) != api.TNone {
			t.Errorf("the test's own: %q", s)
		}
	}
}

func TestAllOfOneAndTwoBytes(t *testing.T) { // P5.1
	for a := range 256 {
		want(t, string([]byte{byte(a)}), api.TNone)
		for b := range 256 {
			s := string([]byte{byte(a), byte(b)})
			want(t, s, kindTold(s))
		}
	}
}

func TestAllSignsAtAllPlaces(t *testing.T) { // P5.1: of each length, each byte at each place
	for n := 2; n <= api.MaxTopic+2; n++ {
		for at := range n {
			for b := range 256 {
				s := []byte("m" + strings.Repeat("x", n-1))
				s[at] = byte(b)
				want(t, string(s), kindTold(string(s)))
			}
		}
	}
}

func TestAllRunesInTheMiddle(t *testing.T) { // P5.1: no rune is taken for another one, whatever its lowest byte is
	for r := rune(0); r <= 0x10ffff; r++ {
		kind := api.TNone
		if r < 128 && strings.ContainsRune(allSigns, r) {
			kind = api.TBag
		}
		if s := "s" + string(r) + "a"; topic.Kind(s) != kind {
			t.Fatalf("Kind(%q): %d; want %d", s, topic.Kind(s), kind)
		}
	}
}

func TestLengths(t *testing.T) { // P5.1, Limits: 2 to MaxTopic bytes
	for n := range 40 {
		s := "r" + strings.Repeat("a", n)
		kind := api.TNone
		if len(s) >= 2 && len(s) <= 12 {
			kind = api.TSeq
		}
		want(t, s, kind)
		wantName(t, api.TSeq, s[1:], kind != api.TNone)
	}
	if api.MaxTopic != 12 {
		t.Errorf("MaxTopic: %d", api.MaxTopic)
	}
}

func TestLetter(t *testing.T) { // P5.1
	for letter, kind := range kinds {
		if l := topic.Letter(kind); l != string(letter) {
			t.Errorf("Letter(%d): %q; want %q", kind, l, letter)
		}
	}
	for _, kind := range noKinds {
		if l := topic.Letter(kind); l != "" {
			t.Errorf("Letter(%d): %q; want none", kind, l)
		}
	}
	for kind := -1000; kind <= 1000; kind++ {
		if is := slices.Contains([]int{1, 2, 3, 4, 5}, kind); (topic.Letter(kind) != "") != is {
			t.Errorf("Letter(%d): %q", kind, topic.Letter(kind))
		}
	}
}

func TestNameOfAllOfOneAndTwoBytes(t *testing.T) { // P5.1
	for letter, kind := range kinds {
		for a := range 256 {
			for b := range 256 {
				rest := string([]byte{byte(a), byte(b)})
				wantName(t, kind, rest, told.MatchString(string(letter)+rest))
			}
			rest := string([]byte{byte(a)})
			wantName(t, kind, rest, told.MatchString(string(letter)+rest))
		}
	}
}

func TestNameOfNamesAndOthers(t *testing.T) { // P5.1: a name may be a rest
	rests := append(wrongs(), "a", "abcdefghijk", "abcdefghijkl")
	for s := range names() {
		rests = append(rests, s, s[1:])
	}
	for _, rest := range rests {
		for letter, kind := range kinds {
			wantName(t, kind, rest, told.MatchString(string(letter)+rest))
		}
	}
}

func TestNameOfNoKind(t *testing.T) { // P5.1: not even where the rest alone is a name
	for _, kind := range noKinds {
		for _, rest := range []string{"", "a", "ca", "c-likes", "s-tags", "rabcdefghijk", "-", "\xff", strings.Repeat("a", 100)} {
			wantName(t, kind, rest, false)
		}
	}
}

func TestNameIsLetterAndRest(t *testing.T) { // P5.2
	for s, kind := range names() {
		if got, e := topic.Name(topic.Kind(s), s[1:]); got != s || e != api.OK {
			t.Errorf("Name(%d, %q): %q, %d; want %q", kind, s[1:], got, e, s)
		}
		if topic.Letter(topic.Kind(s))+s[1:] != s {
			t.Errorf("%q: its letter is %q", s, topic.Letter(topic.Kind(s)))
		}
	}
	for _, kind := range []int{1, 2, 3, 4, 5} { // and the other way round
		for _, a := range allSigns {
			for _, b := range allSigns {
				s, e := topic.Name(kind, string(a)+string(b))
				if e == api.OK && (topic.Kind(s) != kind || topic.Check(s) != api.OK || s[1:] != string(a)+string(b)) {
					t.Errorf("Name(%d, %q): %q, of kind %d", kind, string(a)+string(b), s, topic.Kind(s))
				}
				if (e == api.OK) != (b != '-') {
					t.Errorf("Name(%d, %q): %d", kind, string(a)+string(b), e)
				}
			}
		}
	}
}

func TestLongTextsEnd(t *testing.T) { // P1
	long := strings.Repeat("a", 1<<26)
	want(t, "c"+long, api.TNone)
	want(t, long, api.TNone)
	wantName(t, api.TTally, long, false)
	wantName(t, 99, long, false)
}
