package ident_test

import (
	"bytes"
	"encoding/hex"
	"math/rand"
	"slices"
	"strings"
	"testing"

	"petrel/api"
	"petrel/ident"
)

// few are ids that differ in their first byte, in their last one, or in the middle, in order; some are ids of which a byte is at an end.
func few() []api.Id {
	return []api.Id{{}, {31: 1}, {15: 0x7f, 31: 9}, {15: 0x80}, {0: 0x80}, {0: 0xff, 31: 0xff}}
}

// setTold is the set of those ids of l that fit, as the chapter tells it: of all ids that there are, in order, those that stand in l.
func setTold(l []api.Id, fits func(api.Id) bool) []api.Id {
	m := map[string]bool{}
	for _, id := range l {
		if fits(id) {
			m[string(id[:])] = true
		}
	}
	var texts []string
	for s := range m {
		texts = append(texts, s)
	}
	slices.Sort(texts)
	var set []api.Id
	for _, s := range texts {
		set = append(set, api.Id([]byte(s)))
	}
	return set
}

func every(api.Id) bool { return true }

// stands tells whether id stands in l, one byte after the other.
func stands(l []api.Id, id api.Id) bool {
	for i := range l {
		if bytes.Equal(l[i][:], id[:]) {
			return true
		}
	}
	return false
}

// lists are all lists of up to n of these ids.
func lists(ids []api.Id, n int) [][]api.Id {
	all := [][]api.Id{nil}
	for from := 0; n > 0; n-- {
		to := len(all)
		for _, l := range all[from:to] {
			for _, id := range ids {
				all = append(all, append(slices.Clone(l), id))
			}
		}
		from = to
	}
	return all
}

// chance makes ids and lists that are the same in each run.
type chance struct{ *rand.Rand }

func newChance() chance {
	return chance{rand.New(rand.NewSource(6))}
}

func (c chance) id() api.Id {
	var id api.Id
	c.Read(id[:])
	return id
}

// list has n ids, each of which has one byte that is not nought: half of them at one place, so that some come more than once.
func (c chance) list(n int) []api.Id {
	l := make([]api.Id, n)
	for i := range l {
		if c.Intn(2) == 0 {
			l[i][17] = byte(c.Intn(n + 1))
		} else {
			l[i][c.Intn(32)] = byte(c.Intn(256))
		}
	}
	return l
}

// same tells whether two lists are one (nil and empty ones are).
func same(t *testing.T, what string, got, want []api.Id) {
	t.Helper()
	if !slices.Equal(got, want) {
		t.Fatalf("%s: %s; want %s", what, brief(got), brief(want))
	}
}

func brief(l []api.Id) string {
	var s []string
	for _, id := range l[:min(len(l), 8)] {
		s = append(s, hex.EncodeToString(id[:]))
	}
	return "[" + strings.Join(s, " ") + "]"
}

func TestExample(t *testing.T) { // P6.2
	one, two := api.Id{31: 1}, api.Id{31: 2}
	same(t, "Set of 2, 1, 2", ident.Set([]api.Id{two, one, two}), []api.Id{one, two})
}

func TestCompareFew(t *testing.T) { // P6.1
	for i, a := range few() {
		for j, b := range few() {
			want := 0
			if i < j {
				want = -1
			} else if i > j {
				want = 1
			}
			if n := ident.Compare(a, b); n != want {
				t.Errorf("Compare(%x, %x): %d; want %d", a, b, n, want)
			}
		}
	}
}

func TestCompareAllBytesAtAllPlaces(t *testing.T) { // P6.1: bytes have no sign, and the first one that differs decides
	for at := range 32 {
		for x := range 256 {
			for y := range 256 {
				a, b := api.Id{0: 7, 31: 7}, api.Id{0: 7, 31: 7}
				a[at], b[at] = byte(x), byte(y)
				want := 0
				if x < y {
					want = -1
				} else if x > y {
					want = 1
				}
				for behind := at + 1; behind < 32 && x != y; behind++ { // whatever stands behind it
					a[behind], b[behind] = byte(y), byte(x)
				}
				if n := ident.Compare(a, b); n != want {
					t.Fatalf("Compare(%x, %x): %d; want %d", a, b, n, want)
				}
			}
		}
	}
}

func TestText(t *testing.T) { // P6.1
	for id, want := range map[api.Id]string{
		{}:                                    strings.Repeat("00", 32),
		{31: 1}:                               strings.Repeat("00", 31) + "01",
		{0: 0xab, 1: 0xcd, 2: 0xef, 31: 0xf0}: "abcdef" + strings.Repeat("00", 28) + "f0",
		{0: 0x01, 1: 0x23, 2: 0x45, 3: 0x67, 4: 0x89}: "0123456789" + strings.Repeat("00", 27),
	} {
		if s := ident.Text(id); s != want {
			t.Errorf("Text(%x): %s", id, s)
		}
		if got, e := ident.Parse(want); got != id || e != api.OK {
			t.Errorf("Parse(%s): %x, %d", want, got, e)
		}
	}
}

func TestTextAndParseOfAllBytesAtAllPlaces(t *testing.T) { // P6.1
	c := newChance()
	for at := range 32 {
		for b := range 256 {
			id := c.id()
			id[at] = byte(b)
			want := hex.EncodeToString(id[:])
			if s := ident.Text(id); s != want {
				t.Fatalf("Text(%x): %s", id, s)
			}
			if got, e := ident.Parse(want); got != id || e != api.OK {
				t.Fatalf("Parse(%s): %x, %d", want, got, e)
			}
		}
	}
}

// wantNone looks at a text that no id has.
func wantNone(t *testing.T, s string) {
	t.Helper()
	if id, e := ident.Parse(s); id != (api.Id{}) || e != api.ErrForm {
		t.Fatalf("Parse(%.80q): %x, %d; want none", s, id, e)
	}
}

func TestParseAllSignsAtAllPlaces(t *testing.T) { // P6.1: of all bytes sixteen are signs
	for at := range 64 {
		for b := range 256 {
			s := []byte(strings.Repeat("3c", 32))
			s[at] = byte(b)
			if !strings.ContainsRune("0123456789abcdef", rune(b)) {
				wantNone(t, string(s))
				continue
			}
			id, e := ident.Parse(string(s))
			if e != api.OK || ident.Text(id) != string(s) {
				t.Fatalf("Parse(%q): %x, %d", s, id, e)
			}
		}
	}
}

func TestParseAllLengths(t *testing.T) { // P6.1
	for n := range 200 {
		if n != 64 {
			wantNone(t, strings.Repeat("0", n))
			wantNone(t, strings.Repeat("f", n))
		}
	}
	wantNone(t, strings.Repeat("0", 1<<16))
	wantNone(t, strings.Repeat("0", 1<<26)) // P1
}

func TestParseWrongTexts(t *testing.T) { // P6.1
	id := strings.Repeat("3c", 32)
	for _, s := range []string{
		"", "\x00", id[:63], id[:62], id + "0", id + "00", id + id, id[:63] + "\n", id + "\n", " " + id, id + " ", "\n" + id[1:],
		strings.ToUpper(id), id[:62] + "3C", "0x" + id, "0x" + id[2:], id[:62] + "g0", id[:62] + "0g", id[:31] + "-" + id[:32], id[:62] + "+1", "-1" + id[2:],
		"é" + id[2:], id[:62] + "é", "世" + id[3:], strings.Repeat("é", 32), strings.Repeat("é", 64), strings.Repeat("０", 64), strings.Repeat("а", 64),
		"\xff" + id[1:], id[:63] + "\xff", "\xb0" + id[1:], "\xe6" + id[1:], strings.Repeat("\x00", 32), strings.Repeat("\x00", 64), strings.Repeat("\x0f", 64), "petrel",
	} {
		wantNone(t, s)
	}
}

func TestSetOfFew(t *testing.T) { // P6.2, P6.4: all lists of up to six ids, in each order
	for _, l := range lists(few(), 6) {
		set := setTold(l, every)
		same(t, "Set of "+brief(l), ident.Set(l), set)
		if got := ident.Is(l); got != slices.Equal(l, set) {
			t.Fatalf("Is(%s): %t", brief(l), got)
		}
	}
}

func TestSetOfMany(t *testing.T) { // P6.2, P6.4
	c := newChance()
	for n := range 600 {
		l := c.list(n)
		set := ident.Set(l)
		same(t, "Set", set, setTold(l, every))
		if !ident.Is(set) {
			t.Fatalf("Is(%s): false", brief(set))
		}
		more := append(slices.Clone(l), l...) // each twice, and in another order
		c.Shuffle(len(more), func(i, j int) { more[i], more[j] = more[j], more[i] })
		same(t, "Set of the same ids", ident.Set(more), set)
		same(t, "Set of a set", ident.Set(set), set)
		slices.Reverse(set)
		same(t, "Set of a set the other way round", ident.Set(set), setTold(l, every))
	}
}

func TestIsOfNearlySets(t *testing.T) { // P6.2: one place is enough
	c := newChance()
	set := ident.Set(c.list(40))
	if !ident.Is(nil) || !ident.Is([]api.Id{}) || !ident.Is(set[:1]) || !ident.Is(few()) {
		t.Error("Is of a set: false")
	}
	for i := range len(set) - 1 {
		swapped, twice := slices.Clone(set), slices.Clone(set)
		swapped[i], swapped[i+1] = swapped[i+1], swapped[i]
		twice[i+1] = twice[i]
		if ident.Is(swapped) || ident.Is(twice) {
			t.Errorf("place %d: Is of none: true", i)
		}
	}
}

func TestHas(t *testing.T) { // P6.2: any list
	for _, l := range lists(few()[1:5], 4) {
		for _, id := range few() {
			if got := ident.Has(l, id); got != stands(l, id) {
				t.Fatalf("Has(%s, %x): %t", brief(l), id, got)
			}
		}
	}
	c := newChance()
	for n := range 100 {
		l := c.list(n)
		for i, id := range l {
			if !ident.Has(l, id) || !ident.Has(l[i:], id) {
				t.Fatalf("Has: false of place %d", i)
			}
			if ident.Has(l, c.id()) {
				t.Fatal("Has: true of none")
			}
		}
	}
}

func TestWithAndWithout(t *testing.T) { // P6.3: any lists
	c := newChance()
	all := lists(few()[:5], 4)
	for n := range 60 {
		all = append(all, c.list(n))
	}
	for _, l := range all {
		for _, id := range append(few(), c.id(), c.list(1)[0]) {
			same(t, "With", ident.With(l, id), setTold(append(slices.Clone(l), id), every))
			same(t, "Without", ident.Without(l, id), setTold(l, func(o api.Id) bool { return o != id }))
		}
	}
}

func TestLessAndBoth(t *testing.T) { // P6.3: any lists, of each length
	c := newChance()
	all := lists(few()[1:5], 3)
	for n := range 30 {
		all = append(all, c.list(n), c.list(10*n))
	}
	for _, l := range all {
		for _, m := range all {
			same(t, "Less", ident.Less(l, m), setTold(l, func(id api.Id) bool { return !stands(m, id) }))
			same(t, "Both", ident.Both(l, m), setTold(append(slices.Clone(l), m...), every))
		}
	}
}

func TestBothOfFew(t *testing.T) { // P6.3: all ids of the one and all of the other, whether or not they share any
	nought, one, two, three := api.Id{}, api.Id{31: 1}, api.Id{31: 2}, api.Id{31: 3}
	for _, c := range []struct{ l, m, want []api.Id }{
		{nil, []api.Id{nought}, []api.Id{nought}},
		{[]api.Id{one}, nil, []api.Id{one}},
		{[]api.Id{two, one, two}, nil, []api.Id{one, two}},
		{[]api.Id{one}, []api.Id{one}, []api.Id{one}},
		{[]api.Id{one}, []api.Id{two}, []api.Id{one, two}},
		{[]api.Id{three}, []api.Id{two}, []api.Id{two, three}},
		{[]api.Id{one, three}, []api.Id{two}, []api.Id{one, two, three}},
		{[]api.Id{one, two}, []api.Id{two, three}, []api.Id{one, two, three}},
		{[]api.Id{3: three, 1: one}, []api.Id{two, one, two}, []api.Id{nought, one, two, three}},
	} {
		same(t, "Both", ident.Both(c.l, c.m), c.want)
		same(t, "Both the other way round", ident.Both(c.m, c.l), c.want)
	}
}

func TestPutInAndTakenAway(t *testing.T) { // P6.4
	c := newChance()
	for n := range 60 {
		l, m := c.list(n), c.list(60-n)
		set := ident.Set(l)
		for _, id := range append(slices.Clone(m), few()...) {
			if ident.Has(l, id) {
				same(t, "taken away, and put in", ident.With(ident.Without(l, id), id), set)
			} else {
				same(t, "put in, and taken away", ident.Without(ident.With(l, id), id), set)
			}
			same(t, "With twice", ident.With(ident.With(l, id), id), ident.With(l, id))
			same(t, "Without twice", ident.Without(ident.Without(l, id), id), ident.Without(l, id))
		}
		both := ident.Both(l, m)
		same(t, "Both the other way round", ident.Both(m, l), both)
		same(t, "Both of what Less leaves", ident.Both(ident.Less(l, m), m), both)
		same(t, "Both, less one", ident.Less(both, m), ident.Less(l, m))
		same(t, "Both, and one again", ident.Both(both, m), both)
		one := set
		for _, id := range m {
			one = ident.With(one, id)
		}
		same(t, "Both one by one", one, both)
		same(t, "Less itself", ident.Less(l, l), nil)
		same(t, "Both itself", ident.Both(l, l), set)
	}
}

func TestNilAndEmpty(t *testing.T) { // P3
	empty, id := []api.Id{}, api.Id{9}
	for _, l := range [][]api.Id{nil, empty} {
		if !ident.Is(l) || ident.Has(l, id) || ident.Has(l, api.Id{}) {
			t.Error("Is, Has of an empty list")
		}
		same(t, "Set", ident.Set(l), nil)
		same(t, "With", ident.With(l, id), []api.Id{id})
		same(t, "With", ident.With(l, api.Id{}), []api.Id{{}})
		same(t, "Without", ident.Without(l, id), nil)
		same(t, "Without", ident.Without([]api.Id{id, id}, id), nil)
		for _, m := range [][]api.Id{nil, empty, few()} {
			same(t, "Less", ident.Less(l, m), nil)
			same(t, "Both", ident.Both(l, m), m)
			same(t, "Less", ident.Less(m, l), m)
			same(t, "Both", ident.Both(m, l), m)
		}
	}
}

// calls are all calls that answer a list, of l and another one, and of l and an id that stands nowhere, or in l.
func calls(l, m []api.Id, id api.Id) map[string]func() []api.Id {
	return map[string]func() []api.Id{
		"Set":     func() []api.Id { return ident.Set(l) },
		"With":    func() []api.Id { return ident.With(l, id) },
		"Without": func() []api.Id { return ident.Without(l, id) },
		"Less":    func() []api.Id { return ident.Less(l, m) },
		"Both":    func() []api.Id { return ident.Both(l, m) },
	}
}

// whole is l with all that stands behind its end, where a call may not write either.
func whole(l []api.Id) []api.Id {
	return l[:cap(l)]
}

// withRoom is l in a list that has room, and something in it.
func withRoom(l []api.Id) []api.Id {
	room := append(slices.Clone(l), api.Id{0xee}, api.Id{0xee, 1}, api.Id{0xee, 2})
	return room[:len(l)]
}

func TestWhatIsHandedInStays(t *testing.T) { // P4: and shares nothing with what is answered
	c := newChance()
	for _, list := range [][]api.Id{nil, few(), few()[2:3], {{3}, {1}, {2}, {1}}, c.list(50), ident.Set(c.list(50))} {
		for _, other := range [][]api.Id{nil, few(), few()[2:3], {{5}, {1}}, c.list(50)} {
			for _, id := range []api.Id{{15: 0x80}, {0xff, 1}, {}, {1}} {
				l, m := withRoom(list), withRoom(other)
				wasL, wasM := slices.Clone(whole(l)), slices.Clone(whole(m))
				for name, call := range calls(l, m, id) {
					got := call()
					want := slices.Clone(got)
					same(t, name+": the list", whole(l), wasL)
					same(t, name+": the other list", whole(m), wasM)
					for i := range whole(got) {
						whole(got)[i] = api.Id{0xdd}
					}
					same(t, name+": the list behind a change of the answer", whole(l), wasL)
					same(t, name+": the other list behind a change of the answer", whole(m), wasM)
					got = call()
					for _, handed := range [][]api.Id{l, m} {
						for i := range whole(handed) {
							whole(handed)[i] = api.Id{0xcc}
						}
					}
					same(t, name+": the answer behind a change of the lists", got, want)
					copy(whole(l), wasL)
					copy(whole(m), wasM)
				}
				if ident.Is(l); !slices.Equal(whole(l), wasL) {
					t.Error("Is: the list is changed")
				}
				if ident.Has(l, id); !slices.Equal(whole(l), wasL) {
					t.Error("Has: the list is changed")
				}
			}
		}
	}
}

func TestLongListsEnd(t *testing.T) { // P1
	const n = 1 << 18
	rising, pipe, alike := make([]api.Id, n), make([]api.Id, n), make([]api.Id, n)
	for i := range n {
		up := api.Id{1: byte(i >> 16), 2: byte(i >> 8), 3: byte(i)}
		rising[i], pipe[i], alike[i] = up, up, api.Id{7}
		if i > n/2 {
			pipe[i] = pipe[n-i]
		}
	}
	falling := slices.Clone(rising)
	slices.Reverse(falling)
	same(t, "rising", ident.Set(rising), rising)
	same(t, "falling", ident.Set(falling), rising)
	same(t, "up and down", ident.Set(pipe), rising[:n/2+1])
	same(t, "alike", ident.Set(alike), alike[:1])
	same(t, "Less", ident.Less(falling, pipe), rising[n/2+1:])
	same(t, "Both", ident.Both(falling, pipe), rising)
	same(t, "Both", ident.Both(pipe, alike), append(slices.Clone(rising[:n/2+1]), api.Id{7}))
	same(t, "With", ident.With(falling, api.Id{7}), append(slices.Clone(rising), api.Id{7}))
	same(t, "Without", ident.Without(falling, rising[0]), rising[1:])
	if !ident.Is(rising) || ident.Is(falling) || ident.Is(pipe) || ident.Is(alike) || !ident.Has(falling, rising[0]) || ident.Has(falling, api.Id{7}) {
		t.Error("Is, Has")
	}
}
