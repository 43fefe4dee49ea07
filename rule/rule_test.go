package rule_test

import (
	"bytes"
	"crypto/sha256"
	"encoding/binary"
	"fmt"
	"math"
	"math/rand"
	"reflect"
	"slices"
	"strings"
	"testing"

	"petrel/api"
	"petrel/header"
	"petrel/rule"
)

// sum is that of a header's bytes, whether or not it may be one.
func sum(h api.Header) api.Id {
	l := []byte{byte(len(h.Parents))}
	for _, p := range h.Parents {
		l = append(l, p[:]...)
	}
	l = binary.BigEndian.AppendUint32(l, uint32(h.Height))
	l = append(append(l, byte(len(h.Topic))), h.Topic...)
	l = binary.BigEndian.AppendUint32(append(l, byte(h.Author)), uint32(h.Seq))
	l = binary.BigEndian.AppendUint16(l, uint16(h.Size))
	return sha256.Sum256(append(l, h.Commit[:]...))
}

// whoTold is the known header of that id, if there is one that may be.
func whoTold(id api.Id, known []api.Header) (api.Header, bool) {
	for _, k := range known {
		if header.Check(k) == api.OK && sum(k) == id {
			return k, true
		}
	}
	return api.Header{}, false
}

// verdictTold is Verdict as the chapter tells it, sentence by sentence.
func verdictTold(h api.Header, known []api.Header) api.Errno {
	if e := header.Check(h); e != api.OK {
		return e
	}
	var l []api.Header
	for _, id := range h.Parents {
		k, ok := whoTold(id, known)
		if !ok {
			return api.ErrParent
		}
		l = append(l, k)
	}
	if h.Height != heightTold(l) {
		return api.ErrHeight
	}
	return api.OK
}

// unknownTold is Unknown as the chapter tells it.
func unknownTold(h api.Header, known []api.Header) []api.Id {
	var l []api.Id
	for _, id := range h.Parents {
		if _, ok := whoTold(id, known); !ok {
			l = append(l, id)
		}
	}
	return l
}

// heightTold is Height as the chapter tells it.
func heightTold(parents []api.Header) int {
	if len(parents) == 0 {
		return 1
	}
	most := parents[0].Height
	for _, p := range parents {
		if p.Height > most {
			most = p.Height
		}
	}
	if most < 0 {
		return 1
	}
	if most > 1<<30 {
		return 1<<30 + 1
	}
	return most + 1
}

// aheadTold is the order of headers: by heights, then by ids.
func aheadTold(a, b api.Header) bool {
	if a.Height != b.Height {
		return a.Height < b.Height
	}
	x, y := sum(a), sum(b)
	return bytes.Compare(x[:], y[:]) < 0
}

// nextTold is Next as the chapter tells it: rest has what it is told but Parents and Height.
func nextTold(heads []api.Header, rest api.Header) (api.Header, api.Errno) {
	for _, h := range heads {
		if e := header.Check(h); e != api.OK {
			return api.Header{}, e
		}
	}
	var chosen []api.Header
	left := slices.Clone(heads)
	for len(left) > 0 && len(chosen) < 4 {
		at := 0
		for i := range left {
			if aheadTold(left[at], left[i]) {
				at = i
			}
		}
		chosen = append(chosen, left[at])
		left = slices.Delete(left, at, at+1)
	}
	h := rest
	h.Parents, h.Height = nil, heightTold(chosen)
	for _, p := range chosen {
		if !slices.Contains(h.Parents, sum(p)) {
			h.Parents = append(h.Parents, sum(p))
		}
	}
	slices.SortFunc(h.Parents, func(a, b api.Id) int { return bytes.Compare(a[:], b[:]) })
	if e := header.Check(h); e != api.OK {
		return api.Header{}, e
	}
	return h, api.OK
}

func brief(h api.Header) string {
	return fmt.Sprintf("%d Parents %.4x, Height %d, %.20q, Author %d, Seq %d, Size %d, Commit %x", len(h.Parents), h.Parents, h.Height, h.Topic, h.Author, h.Seq, h.Size, h.Commit[:2])
}

func briefs(l []api.Header) string {
	var s []string
	for i, h := range l {
		if i == 6 {
			s = append(s, fmt.Sprint("and ", len(l)-6))
			break
		}
		s = append(s, brief(h))
	}
	return strings.Join(s, "; ")
}

// copies is l, and all that it has, in new memory.
func copies(l []api.Header) []api.Header {
	c := slices.Clone(l)
	for i := range c {
		c[i].Parents = slices.Clone(c[i].Parents)
	}
	return c
}

// wantVerdict looks at Verdict and Unknown of h, twice, and that nothing is changed.
func wantVerdict(t *testing.T, h api.Header, known []api.Header) api.Errno {
	t.Helper()
	h0, known0 := copies([]api.Header{h})[0], copies(known)
	want, unknown := verdictTold(h, known), unknownTold(h, known)
	for range 2 { // P5
		if e := rule.Verdict(h, known); e != want {
			t.Errorf("Verdict(%s) where known are %s: %d; want %d", brief(h), briefs(known), e, want)
		}
		l := rule.Unknown(h, known)
		if !slices.Equal(l, unknown) {
			t.Errorf("Unknown(%s) where known are %s: %.4x; want %.4x", brief(h), briefs(known), l, unknown)
		}
		for i := range l { // P4: the answer is new
			l[i] = api.Id{1, 2, 3}
		}
	}
	if !reflect.DeepEqual(h, h0) || !reflect.DeepEqual(known, known0) { // P4
		t.Errorf("Verdict or Unknown changed what was handed in: %s; %s", brief(h), briefs(known))
	}
	return want
}

// wantNext looks at Next, twice, that nothing is changed, and that what it tells may be accepted.
func wantNext(t *testing.T, heads []api.Header, rest api.Header) api.Errno {
	t.Helper()
	heads0 := copies(heads)
	want, wantE := nextTold(heads, rest)
	for range 2 { // P5
		h, e := rule.Next(heads, rest.Topic, rest.Author, rest.Seq, rest.Size, rest.Commit)
		if e != wantE || !header.Same(h, want) {
			t.Errorf("Next behind %s of %s: %s; %d; want %s; %d", briefs(heads), brief(rest), brief(h), e, brief(want), wantE)
		}
		if e == api.OK { // P15.4
			if v := rule.Verdict(h, heads); v != api.OK {
				t.Errorf("Verdict of what Next tells behind %s: %d", briefs(heads), v)
			}
		}
		for i := range h.Parents { // P4: the answer is new
			h.Parents[i] = api.Id{1, 2, 3}
		}
	}
	if !reflect.DeepEqual(heads, heads0) { // P4
		t.Errorf("Next changed what was handed in: %s", briefs(heads))
	}
	return wantE
}

// root is the n-th header without parents.
func root(n int) api.Header {
	h := api.Header{Height: 1, Topic: "c-likes", Author: 3, Seq: 1, Size: 5}
	binary.BigEndian.PutUint32(h.Commit[:], uint32(n))
	return h
}

// over is the n-th header of that height behind parents, whether or not it may be.
func over(n, height int, parents ...api.Header) api.Header {
	h := root(n)
	h.Height = height
	h.Parents = idsOf(parents...)
	return h
}

// idsOf are the sums of l, as a set.
func idsOf(l ...api.Header) []api.Id {
	var ids []api.Id
	for _, h := range l {
		ids = append(ids, sum(h))
	}
	slices.SortFunc(ids, func(a, b api.Id) int { return bytes.Compare(a[:], b[:]) })
	return slices.Compact(ids)
}

// high are headers of these heights; what they stand behind nobody knows.
func high(heights ...int) []api.Header {
	var l []api.Header
	for i, n := range heights {
		h := root(1000 + i)
		if h.Height = n; n != 1 {
			h.Parents = []api.Id{{byte(i), 7}}
		}
		l = append(l, h)
	}
	return l
}

// flaws make a header one that may not be, each in a way of its own, with the error that tells it.
var flaws = []struct {
	e    api.Errno
	make func(h *api.Header)
}{
	{api.ErrFull, func(h *api.Header) { h.Parents = []api.Id{{1}, {2}, {3}, {4}, {5}} }},
	{api.ErrForm, func(h *api.Header) { h.Parents = []api.Id{{2}, {1}} }},
	{api.ErrForm, func(h *api.Header) { h.Parents = []api.Id{{2}, {2}} }},
	{api.ErrHeight, func(h *api.Header) { h.Height = 0 }},
	{api.ErrHeight, func(h *api.Header) { h.Height = math.MinInt }},
	{api.ErrHeight, func(h *api.Header) { h.Height = 1<<30 + 1 }},
	{api.ErrHeight, func(h *api.Header) { h.Height = math.MaxInt }},
	{api.ErrHeight, func(h *api.Header) { h.Height, h.Parents = 2, nil }},
	{api.ErrHeight, func(h *api.Header) { h.Height, h.Parents = 1, []api.Id{{9}} }},
	{api.ErrTopic, func(h *api.Header) { h.Topic = "" }},
	{api.ErrTopic, func(h *api.Header) { h.Topic = "x-likes" }},
	{api.ErrTopic, func(h *api.Header) { h.Topic = "c123456789012" }},
	{api.ErrRange, func(h *api.Header) { h.Author = -1 }},
	{api.ErrRange, func(h *api.Header) { h.Author = 256 }},
	{api.ErrRange, func(h *api.Header) { h.Seq = 0 }},
	{api.ErrRange, func(h *api.Header) { h.Seq = 1<<30 + 1 }},
	{api.ErrRange, func(h *api.Header) { h.Size = 0 }},
	{api.ErrRange, func(h *api.Header) { h.Size = 513 }},
}

// broken is h with a flaw.
func broken(h api.Header, flaw int) api.Header {
	flaws[flaw].make(&h)
	return h
}

func TestExample(t *testing.T) { // P15.2
	if n := rule.Height([]api.Header{{Height: 1}}); n != 2 {
		t.Errorf("behind a header of height 1: height %d", n)
	}
	if h, e := rule.Next([]api.Header{root(1)}, "c-likes", 1, 1, 5, api.Id{}); h.Height != 2 || e != api.OK {
		t.Errorf("behind a header of height 1: %s; %d", brief(h), e)
	}
}

func TestByHand(t *testing.T) { // P15.1: a small dag, and what may stand behind it
	a, b := root(1), root(2)
	c := over(3, 2, a)
	d := over(4, 3, a, c)
	known := []api.Header{d, a, c}
	for _, x := range []struct {
		h       api.Header
		want    api.Errno
		unknown []api.Id
	}{
		{root(9), api.OK, nil},
		{a, api.OK, nil},
		{over(9, 2, a), api.OK, nil},
		{over(9, 3, a), api.ErrHeight, nil},
		{over(9, 1, a), api.ErrHeight, nil},
		{over(9, 3, c), api.OK, nil},
		{over(9, 3, a, c), api.OK, nil},
		{over(9, 2, a, c), api.ErrHeight, nil},
		{over(9, 4, a, c, d), api.OK, nil},
		{over(9, 4, d), api.OK, nil},
		{over(9, 5, a, c, d), api.ErrHeight, nil},
		{over(9, 2, b), api.ErrParent, idsOf(b)},
		{over(9, 2, a, b), api.ErrParent, idsOf(b)},
		{over(9, 7, a, b), api.ErrParent, idsOf(b)},
		{over(9, 4, b, d, root(7)), api.ErrParent, idsOf(b, root(7))},
	} {
		if e := rule.Verdict(x.h, known); e != x.want {
			t.Errorf("Verdict(%s): %d; want %d", brief(x.h), e, x.want)
		}
		if l := rule.Unknown(x.h, known); !slices.Equal(l, x.unknown) {
			t.Errorf("Unknown(%s): %.4x; want %.4x", brief(x.h), l, x.unknown)
		}
		wantVerdict(t, x.h, known)
	}
}

// subsets are all sets of what is in l.
func subsets(l []api.Header) [][]api.Header {
	var all [][]api.Header
	for bits := range 1 << len(l) {
		var some []api.Header
		for i := range l {
			if bits>>i&1 != 0 {
				some = append(some, l[i])
			}
		}
		all = append(all, some)
	}
	return all
}

func TestAllOfASmallDag(t *testing.T) { // P15.1: all sets that are known, all that may be parents, all heights
	a, b := root(1), root(2)
	c := over(3, 2, a, b)
	d := over(4, 3, b, c)
	e := over(5, 3, c)
	world := []api.Header{a, b, c, d, e}
	seen := map[api.Errno]int{}
	for _, known := range subsets(world) {
		for _, parents := range subsets(world) {
			for height := range 6 {
				seen[wantVerdict(t, over(9, height, parents...), known)]++
			}
		}
	}
	for _, e := range []api.Errno{api.OK, api.ErrFull, api.ErrParent, api.ErrHeight} {
		if seen[e] < 100 {
			t.Errorf("the test's own: %d verdicts of %d", seen[e], e)
		}
	}
}

func TestWhatMayNotBe(t *testing.T) { // P15.1: header.Check's error, ahead of the parents' and the height's
	known := []api.Header{root(1), root(2), over(3, 2, root(1))}
	for i, f := range flaws {
		for _, h := range []api.Header{root(9), over(9, 2, root(1)), over(9, 3, root(1), known[2]), over(9, 2, root(8)), over(9, 9, root(1)), over(9, 5, root(8), root(1))} {
			h = broken(h, i)
			for _, k := range [][]api.Header{known, nil, {h}} {
				if e := wantVerdict(t, h, k); e == api.OK || h.Height == 1 && len(h.Parents) == 0 && e != f.e {
					t.Errorf("the test's own: %s: %d", brief(h), e)
				}
			}
		}
	}
	for i := range flaws { // of two flaws the one that layer 8 names first
		for j := range flaws {
			wantVerdict(t, broken(broken(over(9, 5, root(8), root(1)), i), j), known)
		}
	}
}

func TestKnownThatMayNotBe(t *testing.T) { // P15.1: it has no id
	for i := range flaws {
		for _, h := range []api.Header{root(1), over(1, 2, root(2)), over(1, 7, root(2), root(3))} {
			bad := broken(h, i)
			for _, height := range []int{2, 3, 8, bad.Height + 1, 1<<30 + 1} {
				x := root(9)
				x.Height, x.Parents = height, []api.Id{sum(bad)}
				for _, known := range [][]api.Header{{bad}, {h, bad}, {bad, h}} {
					if e := wantVerdict(t, x, known); e == api.OK || e == api.ErrHeight && header.Check(x) == api.OK {
						t.Errorf("the test's own: behind %s: %d", brief(bad), e)
					}
					x.Parents = []api.Id{{}} // the zero id is no known header's either
					wantVerdict(t, x, known)
					x.Parents = idsOf(bad, h)
					wantVerdict(t, x, known)
					x.Parents = []api.Id{sum(bad)}
				}
			}
		}
	}
}

func TestKnownByItsIdAlone(t *testing.T) { // P15.1: not by its Commit, nor by its Parents, nor by what is like it
	k := over(1, 5, root(2))
	for _, id := range []api.Id{k.Commit, k.Parents[0], {}, {0: 1}} {
		x := root(9)
		x.Height, x.Parents = 6, []api.Id{id}
		if e := wantVerdict(t, x, []api.Header{k}); e != api.ErrParent {
			t.Errorf("the test's own: %d", e)
		}
	}
	id := sum(k)
	for i := range id { // each byte of it counts
		for _, turn := range []byte{1, 128} {
			x := root(9)
			x.Height, x.Parents = 6, []api.Id{id}
			x.Parents[0][i] ^= turn
			wantVerdict(t, x, []api.Header{k})
		}
	}
}

func TestKnownMoreThanOnce(t *testing.T) { // P15.1: in any order, and how often plays no part
	a, c := root(1), over(2, 2, root(1))
	d := over(3, 3, c)
	for _, known := range [][]api.Header{{a, a}, {a, c, a}, {c, a, d, d, a}, {d, c, a, root(4)}, {root(4), root(5), a, c, d}, {broken(a, 3), a, broken(c, 12), c, d}} {
		for _, parents := range subsets([]api.Header{a, c, d}) {
			for height := range 6 {
				wantVerdict(t, over(9, height, parents...), known)
			}
		}
	}
}

// ends are heights at their ends.
var ends = []int{math.MinInt, math.MinInt + 1, -1 << 32, -1 << 30, -2, -1, 0, 1, 2, 3, 255, 256, 1<<16 - 1, 1<<30 - 2, 1<<30 - 1, 1 << 30, 1<<30 + 1, 1<<30 + 2, 1 << 31, 1<<32 + 1, math.MaxInt - 1, math.MaxInt}

func TestHeight(t *testing.T) { // P15.2
	for _, x := range []struct {
		l    []int
		want int
	}{
		{nil, 1}, {[]int{1}, 2}, {[]int{1, 2}, 3}, {[]int{2, 1}, 3}, {[]int{7, 7}, 8}, {[]int{3, 9, 4}, 10}, {[]int{0}, 1}, {[]int{-1}, 1}, {[]int{-5, -7}, 1}, {[]int{-1, 4}, 5},
		{[]int{1<<30 - 1}, 1 << 30}, {[]int{1 << 30}, 1<<30 + 1}, {[]int{1<<30 + 1}, 1<<30 + 1}, {[]int{math.MaxInt}, 1<<30 + 1}, {[]int{math.MinInt}, 1}, {[]int{math.MaxInt, math.MinInt}, 1<<30 + 1},
	} {
		var l []api.Header
		for _, n := range x.l {
			l = append(l, api.Header{Height: n})
		}
		if n := rule.Height(l); n != x.want {
			t.Errorf("Height of %d: %d; want %d", x.l, n, x.want)
		}
	}
	for _, l := range [][]api.Header{nil, {}} { // P3
		if n := rule.Height(l); n != 1 {
			t.Errorf("Height of none: %d", n)
		}
	}
}

func TestHeightsAtTheirEnds(t *testing.T) { // P15.2, P6: each three of them, in each order
	for _, a := range ends {
		for _, b := range ends {
			for _, c := range ends {
				l := []api.Header{{Height: a}, {Height: b, Topic: "x", Parents: []api.Id{{1}}}, {Height: c}}
				for n := range 4 {
					if got, want := rule.Height(l[:n]), heightTold(l[:n]); got != want {
						t.Errorf("Height of %s: %d; want %d", briefs(l[:n]), got, want)
					}
				}
			}
		}
	}
}

func TestHeightOfMany(t *testing.T) { // P15.2: the greatest at each place of a list that is longer than parents may be
	for n := 1; n < 40; n++ {
		for at := range n {
			l := make([]api.Header, n)
			for i := range l {
				l[i].Height = i%7 + 1
			}
			l[at].Height = 100
			if got := rule.Height(l); got != 101 {
				t.Errorf("100 at place %d of %d: %d", at, n, got)
			}
		}
	}
}

func TestVerdictAtTheEndOfHeights(t *testing.T) { // P15.1, Limits
	l := high(1, 1<<30-2, 1<<30-1, 1<<30)
	for _, parents := range subsets(l)[1:] {
		for _, height := range ends {
			wantVerdict(t, over(9, height, parents...), l)
		}
	}
	if e := rule.Verdict(over(9, 1<<30, l[2]), l); e != api.OK {
		t.Errorf("a header of MaxHeight: %d", e)
	}
	if e := rule.Verdict(over(9, 1<<30+1, l[3]), l); e != api.ErrHeight {
		t.Errorf("a header above MaxHeight: %d", e)
	}
	if e := rule.Verdict(over(9, 1<<30, l[3]), l); e != api.ErrHeight {
		t.Errorf("a header as high as its parent: %d", e)
	}
}

func TestUnknownOfAnyParents(t *testing.T) { // P15.1: lists that are no set, and headers that may not be
	a, b, c := sum(root(1)), sum(root(2)), sum(root(3))
	pool := []api.Id{a, b, c, {}, {31: 1}, {0: 255}}
	known := [][]api.Header{nil, {root(1)}, {root(2), root(1)}, {root(1), root(2), root(3)}, {broken(root(1), 9), root(2)}}
	var look func(l []api.Id, n int)
	look = func(l []api.Id, n int) {
		for _, k := range known {
			for _, h := range []api.Header{{Parents: l}, {Parents: l, Height: 2, Topic: "c-likes", Seq: 1, Size: 1}, {Parents: l, Height: -4, Author: 999}} {
				wantVerdict(t, h, k)
			}
		}
		if n == 0 {
			return
		}
		for _, id := range pool {
			look(append(slices.Clone(l), id), n-1)
		}
	}
	look(nil, 4)
	long := slices.Repeat(pool, 5)
	rand.New(rand.NewSource(3)).Shuffle(len(long), func(i, j int) { long[i], long[j] = long[j], long[i] })
	for n := range long {
		for _, k := range known {
			wantVerdict(t, api.Header{Parents: long[:n]}, k)
		}
	}
}

func TestNextByHand(t *testing.T) { // P15.3
	a, b := root(1), root(2)
	c := over(3, 2, a)
	rest := api.Header{Topic: "s-tags", Author: 7, Seq: 11, Size: 13, Commit: api.Id{17}}
	set := func(height int, parents ...api.Header) api.Header {
		h := rest
		h.Parents, h.Height = idsOf(parents...), height
		return h
	}
	l := high(2, 3, 4, 5, 6)
	for _, x := range []struct {
		heads []api.Header
		want  api.Header
	}{
		{nil, set(1)},
		{[]api.Header{a}, set(2, a)},
		{[]api.Header{a, b}, set(2, a, b)},
		{[]api.Header{b, a}, set(2, a, b)},
		{[]api.Header{c, b}, set(3, b, c)},
		{l[:4], set(6, l[:4]...)},
		{l, set(7, l[1:]...)},
		{append([]api.Header{a}, l...), set(7, l[1:]...)},
		{[]api.Header{l[4], a, l[0], b, l[2]}, set(7, l[4], l[0], l[2], later(a, b))},
		{[]api.Header{a, a}, set(2, a)},
		{[]api.Header{l[4], l[3], l[4], l[2], l[1]}, set(7, l[4], l[3], l[2])}, // one that comes twice counts twice
		{[]api.Header{l[0], l[0], l[3], l[2], l[1]}, set(6, l[0], l[1], l[2], l[3])},
		{[]api.Header{l[1], l[4], l[4], l[4], l[4], l[0]}, set(7, l[4])},
	} {
		h, e := rule.Next(x.heads, rest.Topic, rest.Author, rest.Seq, rest.Size, rest.Commit)
		if e != api.OK || !header.Same(h, x.want) {
			t.Errorf("Next behind %s: %s; %d; want %s", briefs(x.heads), brief(h), e, brief(x.want))
		}
		wantNext(t, x.heads, rest)
	}
	if h, _ := rule.Next([]api.Header{}, rest.Topic, rest.Author, rest.Seq, rest.Size, rest.Commit); !header.Same(h, set(1)) { // P3
		t.Errorf("Next behind an empty list: %s", brief(h))
	}
}

// later is the one of a and b that is behind the other one.
func later(a, b api.Header) api.Header {
	if aheadTold(a, b) {
		return b
	}
	return a
}

func TestNextOfOneHeight(t *testing.T) { // P15.3: by ids, in each order of the heads
	var l []api.Header
	for i := range 7 {
		l = append(l, root(i))
	}
	chance := rand.New(rand.NewSource(5))
	for n := range len(l) + 1 {
		for range 60 {
			chance.Shuffle(len(l), func(i, j int) { l[i], l[j] = l[j], l[i] })
			if e := wantNext(t, l[:n], root(9)); e != api.OK {
				t.Errorf("the test's own: %d", e)
			}
		}
	}
}

func TestNextOfAllRows(t *testing.T) { // P15.3: all rows of up to five heads out of six, some of them twice, some of one height
	pool := high(1, 1, 2, 2, 3, 9)
	rest := api.Header{Topic: "m-name", Author: 255, Seq: 1 << 30, Size: 512, Commit: api.Id{31: 1}}
	var look func(l []api.Header, n int)
	look = func(l []api.Header, n int) {
		wantNext(t, l, rest)
		if n == 0 {
			return
		}
		for _, h := range pool {
			look(append(slices.Clone(l), h), n-1)
		}
	}
	look(nil, 5)
}

func TestNextBehindWhatMayNotBe(t *testing.T) { // P15.3: the error of the first such head, ahead of all that is told
	good := high(1, 2, 3, 4, 5, 6)
	bads := []api.Header{{}, root(1), {Topic: "x", Author: -1}}
	for i, f := range flaws {
		for at := range len(good) + 1 {
			l := slices.Insert(slices.Clone(good), at, broken(root(7), i))
			for _, rest := range append(bads, root(2)) {
				if e := wantNext(t, l, rest); e != header.Check(l[at]) {
					t.Errorf("the test's own: %d", e)
				}
			}
			if e := wantNext(t, l[at:at+1], root(2)); e != f.e && f.e != api.ErrHeight {
				t.Errorf("the test's own: %d; want %d", e, f.e)
			}
		}
		for j := range flaws { // of two heads
			for _, l := range [][]api.Header{{broken(root(7), i), broken(root(8), j)}, {good[5], broken(root(7), i), good[4], broken(root(8), j), good[0]}} {
				wantNext(t, l, root(2))
				wantNext(t, l, api.Header{})
			}
		}
	}
}

func TestNextWithWhatMayNotBe(t *testing.T) { // P15.3: header.Check's error of what it would be
	heads := [][]api.Header{nil, {root(1)}, high(1, 2, 3, 4, 5), high(1<<30 - 1), high(1 << 30), high(1<<30, 1, 2, 3), high(1<<30, 1<<30)}
	numbers := []int{math.MinInt, -1, 0, 1, 2, 255, 256, 257, 511, 512, 513, 65537, 1<<30 - 1, 1 << 30, 1<<30 + 1, 1<<32 + 1, math.MaxInt}
	topics := []string{"c-likes", "s0", "r12345678901", "", "c", "c-", "x-likes", "C-likes", "c123456789012", "c\x00", strings.Repeat("c", 300)}
	seen := map[api.Errno]int{}
	for _, l := range heads {
		for _, topic := range topics {
			for _, n := range numbers {
				for _, rest := range []api.Header{{Author: n, Seq: 1, Size: 1}, {Author: 1, Seq: n, Size: 1}, {Author: 1, Seq: 1, Size: n}, {Author: n, Seq: n, Size: n}} {
					rest.Topic = topic
					seen[wantNext(t, l, rest)]++
				}
			}
		}
	}
	for _, e := range []api.Errno{api.OK, api.ErrHeight, api.ErrTopic, api.ErrRange} {
		if seen[e] < 100 {
			t.Errorf("the test's own: %d of %d", seen[e], e)
		}
	}
}

// grown is a dag that grows by chance: each header Next tells behind some of those ahead of it.
func grown(t *testing.T, chance *rand.Rand, n int) []api.Header {
	var l []api.Header
	for i := range n {
		var heads []api.Header
		for range chance.Intn(7) {
			if i > 0 {
				heads = append(heads, l[chance.Intn(i)])
			}
		}
		rest := root(i)
		h, e := rule.Next(heads, rest.Topic, rest.Author, rest.Seq, rest.Size, rest.Commit)
		if want, _ := nextTold(heads, rest); e != api.OK || !header.Same(h, want) {
			t.Errorf("Next behind %s: %s; %d; want %s", briefs(heads), brief(h), e, brief(want))
		}
		l = append(l, h)
	}
	return l
}

func TestOrdersByChance(t *testing.T) { // P15.4
	chance := rand.New(rand.NewSource(15))
	for range 30 {
		l := grown(t, chance, 20)
		known := slices.Clone(l)
		chance.Shuffle(len(known), func(i, j int) { known[i], known[j] = known[j], known[i] })
		for i, h := range l { // what Next tells may be accepted, where its heads are known, whoever else is
			if e := rule.Verdict(h, l[:i]); e != api.OK {
				t.Errorf("Verdict(%s): %d", brief(h), e)
			}
			if e := rule.Verdict(h, known); e != api.OK {
				t.Errorf("Verdict(%s) among all: %d", brief(h), e)
			}
		}
		at := map[api.Id]int{}
		for i, h := range known {
			at[sum(h)] = i
		}
		for i, h := range known { // in any order: it may be accepted, just if each parent is ahead
			ahead := true
			for _, p := range h.Parents {
				ahead = ahead && at[p] < i
			}
			if e := rule.Verdict(h, known[:i]); (e == api.OK) != ahead || e != api.OK && e != api.ErrParent {
				t.Errorf("Verdict(%s): %d; are its parents ahead: %t", brief(h), e, ahead)
			}
			wantVerdict(t, h, known[:i])
		}
	}
}

func TestHeadersByChance(t *testing.T) { // P15.1
	chance := rand.New(rand.NewSource(151))
	seen := map[api.Errno]int{}
	for range 20 {
		l := grown(t, chance, 12)
		for i := range l {
			if chance.Intn(5) == 0 {
				l[i] = broken(l[i], chance.Intn(len(flaws)))
			}
		}
		for range 150 {
			var parents []api.Header
			for range chance.Intn(4) {
				parents = append(parents, l[chance.Intn(len(l))])
			}
			h := over(50, heightTold(parents)+max(0, chance.Intn(12)-9), parents...)
			if chance.Intn(6) == 0 {
				h.Parents = append(h.Parents, api.Id{byte(chance.Intn(256))})
			}
			if chance.Intn(6) == 0 {
				h = broken(h, chance.Intn(len(flaws)))
			}
			chance.Shuffle(len(l), func(i, j int) { l[i], l[j] = l[j], l[i] })
			seen[wantVerdict(t, h, l[:chance.Intn(len(l)+1)])]++
		}
	}
	for _, e := range []api.Errno{api.OK, api.ErrParent, api.ErrHeight, api.ErrFull, api.ErrForm, api.ErrTopic, api.ErrRange} {
		if seen[e] < 20 {
			t.Errorf("the test's own: %d of %d", seen[e], e)
		}
	}
}

func TestNilAndEmpty(t *testing.T) { // P3
	empty := root(1)
	empty.Parents = []api.Id{}
	for _, h := range []api.Header{root(1), empty, over(2, 2, root(1)), over(2, 2, empty)} {
		for _, known := range [][]api.Header{nil, {}, {root(1)}, {empty}} {
			wantVerdict(t, h, known)
		}
	}
	if e := rule.Verdict(over(2, 2, root(1)), []api.Header{empty}); e != api.OK {
		t.Errorf("behind one whose Parents are empty: %d", e)
	}
	for _, heads := range [][]api.Header{{empty}, {root(1)}, {empty, root(1), root(2)}} {
		wantNext(t, heads, root(3))
	}
}

func TestRoomBehindLists(t *testing.T) { // P4: what stands behind a list's end is not ours
	room := make([]api.Header, 8)
	for i := range room {
		room[i] = root(i)
	}
	ids := idsOf(room...)
	h := over(20, 2, room[0])
	h.Parents = ids[:3]
	room0, ids0 := copies(room), slices.Clone(ids)
	for n := range room {
		rule.Verdict(h, room[:n])
		rule.Unknown(h, room[:n])
		rule.Height(room[:n])
		rule.Next(room[:n], "c-likes", 1, 1, 1, api.Id{})
	}
	if !reflect.DeepEqual(room, room0) || !slices.Equal(ids, ids0) {
		t.Error("what stands behind a list's end was changed")
	}
}

func TestAnswersAreNew(t *testing.T) { // P4: behind an answer nothing of the arguments is to be seen
	known := []api.Header{root(1)}
	h := over(2, 2, root(3), root(4))
	l := rule.Unknown(h, known)
	h.Parents[0], h.Parents[1] = api.Id{}, api.Id{}
	if !slices.Equal(l, idsOf(root(3), root(4))) {
		t.Errorf("Unknown's answer has changed: %.4x", l)
	}
	heads := []api.Header{root(1), over(2, 2, root(1))}
	n, _ := rule.Next(heads, "c-likes", 1, 1, 1, api.Id{})
	want := idsOf(heads...)
	heads[0], heads[1].Parents[0] = api.Header{}, api.Id{}
	if !slices.Equal(n.Parents, want) {
		t.Errorf("Next's answer has changed: %s", brief(n))
	}
}

func TestMany(t *testing.T) { // P1: long lists end
	const n = 1 << 15
	known := make([]api.Header, n)
	var h api.Header
	for i := range known {
		known[i] = root(i)
		h.Parents = append(h.Parents, sum(root(i*2)))
	}
	if l := rule.Unknown(h, known); len(l) != n/2 || l[0] != sum(root(n)) || l[n/2-1] != sum(root(2*n-2)) {
		t.Errorf("Unknown of %d parents: %d", n, len(l))
	}
	if e := rule.Verdict(h, known); e != api.ErrFull {
		t.Errorf("Verdict of %d parents: %d", n, e)
	}
	if e := rule.Verdict(over(n, 2, known[0], known[n-1]), known); e != api.OK {
		t.Errorf("Verdict where %d are known: %d", n, e)
	}
	if e := rule.Verdict(over(n, 2, known[0], root(n)), known); e != api.ErrParent {
		t.Errorf("Verdict where %d are known: %d", n, e)
	}
	if e := wantNext(t, known[:200], root(n)); e != api.OK {
		t.Errorf("Next of 200 heads: %d", e)
	}
	if h, e := rule.Next(known, "c-likes", 1, 1, 1, api.Id{}); e != api.OK || len(h.Parents) != 4 || h.Height != 2 {
		t.Errorf("Next of %d heads: %s; %d", n, brief(h), e)
	}
	if got := rule.Height(make([]api.Header, 1<<20)); got != 1 {
		t.Errorf("Height of many zero headers: %d", got)
	}
}
