package dag_test

import (
	"bytes"
	"encoding/binary"
	"fmt"
	"math"
	"math/rand"
	"reflect"
	"slices"
	"testing"

	"petrel/api"
	"petrel/dag"
	"petrel/header"
	"petrel/rule"
)

// model is what a Dag has, as lists in the order in which it came.
type model struct {
	l   []api.Header
	ids []api.Id
}

// idOf is the id of a header that may be.
func idOf(h api.Header) api.Id {
	id, e := header.Ident(h)
	if e != api.OK {
		panic(fmt.Sprint("the test's own: an id of ", h))
	}
	return id
}

func (m *model) add(h api.Header) (api.Id, api.Errno) {
	if e := rule.Verdict(h, m.l); e != api.OK {
		return api.Id{}, e
	}
	id := idOf(h)
	if !m.has(id) {
		m.l, m.ids = append(m.l, copied(h)), append(m.ids, id)
	}
	return id, api.OK
}

func (m *model) has(id api.Id) bool {
	return slices.Contains(m.ids, id)
}

func (m *model) get(id api.Id) (api.Header, api.Errno) {
	if i := slices.Index(m.ids, id); i >= 0 {
		return m.l[i], api.OK
	}
	return api.Header{}, api.ErrNone
}

// sorted are the ids of what is wanted: again and again the one that no other one left stands ahead of.
func (m *model) sorted(wanted func(i int) bool) []api.Id {
	var left []int
	for i := range m.l {
		if wanted(i) {
			left = append(left, i)
		}
	}
	var ids []api.Id
	for len(left) > 0 {
		first := 0
		for i := range left {
			if m.ahead(left[i], left[first]) {
				first = i
			}
		}
		ids = append(ids, m.ids[left[first]])
		left = slices.Delete(left, first, first+1)
	}
	return ids
}

// ahead tells whether the i-th stands ahead of the j-th: by heights, then by ids.
func (m *model) ahead(i, j int) bool {
	a, b := m.l[i].Height, m.l[j].Height
	return a < b || a == b && bytes.Compare(m.ids[i][:], m.ids[j][:]) < 0
}

func (m *model) all() []api.Id {
	return m.sorted(func(int) bool { return true })
}

func (m *model) heads() []api.Id {
	return m.sorted(func(i int) bool {
		return !slices.ContainsFunc(m.l, func(h api.Header) bool { return slices.Contains(h.Parents, m.ids[i]) })
	})
}

func (m *model) topic(t string) []api.Id {
	return m.sorted(func(i int) bool { return m.l[i].Topic == t })
}

func (m *model) committed(c api.Id) []api.Id {
	return m.sorted(func(i int) bool { return m.l[i].Commit == c })
}

func (m *model) unknown(h api.Header) []api.Id {
	return slices.DeleteFunc(slices.Clone(h.Parents), m.has)
}

func brief(h api.Header) string {
	return fmt.Sprintf("%d Parents %.4x, Height %d, %.20q, Author %d, Seq %d, Size %d, Commit %x", len(h.Parents), h.Parents, h.Height, h.Topic, h.Author, h.Seq, h.Size, h.Commit[:2])
}

func copied(h api.Header) api.Header {
	h.Parents = slices.Clone(h.Parents)
	return h
}

// spoil writes over a list that was answered (P4).
func spoil(l []api.Id) {
	l = l[:cap(l)]
	for i := range l {
		l[i] = api.Id{1, 2, 3}
	}
}

func wantIds(t *testing.T, what string, got, want []api.Id) {
	t.Helper()
	if !slices.Equal(got, want) {
		t.Errorf("%s: %.4x; want %.4x", what, got, want)
	}
	spoil(got)
}

// topics are some that headers have here, some that are like them, and some that are none.
var topics = []string{"c-likes", "s-tags", "c-like", "c-likes0", "C-likes", "-likes", "", "c", "x", "c-likes\x00", "r12345678901"}

// wantDag asks d all there is to ask, twice, and of these headers too, whether or not they are accepted.
func wantDag(t *testing.T, d *dag.Dag, m *model, of ...api.Header) {
	t.Helper()
	for range 2 { // P5, and P4: what was answered is written over
		if d.Len() != len(m.l) {
			t.Errorf("Len: %d; want %d", d.Len(), len(m.l))
		}
		wantIds(t, "All", d.All(), m.all())
		wantIds(t, "Heads", d.Heads(), m.heads())
		for _, s := range topics {
			wantIds(t, "Topic "+s, d.Topic(s), m.topic(s))
		}
		wantHas(t, d, m, api.Id{})
		wantIds(t, "Committed", d.Committed(api.Id{}), m.committed(api.Id{}))
		for _, h := range append(of, m.l...) {
			wantIds(t, "Committed "+brief(h), d.Committed(h.Commit), m.committed(h.Commit))
			wantIds(t, "Unknown "+brief(h), d.Unknown(h), m.unknown(h))
			for _, id := range append(slices.Clone(h.Parents), h.Commit) {
				wantHas(t, d, m, id)
			}
			if header.Check(h) == api.OK {
				wantHas(t, d, m, idOf(h))
			}
		}
	}
}

func wantHas(t *testing.T, d *dag.Dag, m *model, id api.Id) {
	t.Helper()
	if d.Has(id) != m.has(id) {
		t.Errorf("Has(%.4x): %t; want %t", id, d.Has(id), m.has(id))
	}
	h, e := d.Get(id)
	if want, wantE := m.get(id); e != wantE || !header.Same(h, want) {
		t.Errorf("Get(%.4x): %s; %d; want %s; %d", id, brief(h), e, brief(want), wantE)
	}
	spoil(h.Parents)
}

// wantAdd adds h to d and to m, and looks at the answer, and that h stays as it is.
func wantAdd(t *testing.T, d *dag.Dag, m *model, h api.Header) api.Errno {
	t.Helper()
	h0 := copied(h)
	want, wantE := m.add(h)
	id, e := d.Add(h)
	if id != want || e != wantE {
		t.Errorf("Add(%s): %.4x; %d; want %.4x; %d", brief(h), id, e, want, wantE)
	}
	if !reflect.DeepEqual(h, h0) { // P4
		t.Errorf("Add changed what was handed in: %s; it was %s", brief(h), brief(h0))
	}
	return wantE
}

// root is the n-th header without parents.
func root(n int) api.Header {
	h := api.Header{Height: 1, Topic: "c-likes", Author: 3, Seq: 1, Size: 5}
	binary.BigEndian.PutUint32(h.Commit[:], uint32(n))
	return h
}

// over is the n-th header of that height behind parents.
func over(n, height int, parents ...api.Header) api.Header {
	h := root(n)
	h.Height = height
	for _, p := range parents {
		h.Parents = append(h.Parents, idOf(p))
	}
	slices.SortFunc(h.Parents, func(a, b api.Id) int { return bytes.Compare(a[:], b[:]) })
	return h
}

// of is h of another topic, with another sum of a payload.
func of(h api.Header, t string, c api.Id) api.Header {
	h.Topic, h.Commit = t, c
	return h
}

// six are headers with each way to stand behind others; some have one topic, some one sum.
func six() []api.Header {
	a := root(1)
	b := of(root(2), "s-tags", api.Id{7})
	c := of(over(3, 2, a, b), "c-likes", api.Id{7})
	d := of(over(4, 3, b, c), "s-tags", api.Id{})
	e := over(5, 2, a)
	return []api.Header{a, b, c, d, e, over(6, 4, a, c, d, e)}
}

// grown is a Dag of l, added in this order.
func grown(t *testing.T, l ...api.Header) (*dag.Dag, *model) {
	t.Helper()
	d, m := dag.New(), &model{}
	for _, h := range l {
		if e := wantAdd(t, d, m, h); e != api.OK {
			t.Errorf("the test's own: %s: %d", brief(h), e)
		}
	}
	return d, m
}

func TestExample(t *testing.T) { // P16.2
	a := root(1)
	b := over(2, 2, a)
	d := dag.New()
	d.Add(a)
	wantIds(t, "the head", d.Heads(), []api.Id{idOf(a)})
	d.Add(b)
	wantIds(t, "the head, when one stands behind it", d.Heads(), []api.Id{idOf(b)})
}

func TestNone(t *testing.T) { // P16.1
	wantDag(t, dag.New(), &model{}, six()...)
	d := dag.New()
	if n := d.Len(); n != 0 {
		t.Errorf("Len of a new one: %d", n)
	}
	if l := slices.Concat(d.All(), d.Heads(), d.Topic("c-likes"), d.Topic(""), d.Committed(api.Id{}), d.Unknown(root(1))); len(l) != 0 {
		t.Errorf("a new one tells ids: %x", l)
	}
	if _, e := d.Get(api.Id{}); e != api.ErrNone {
		t.Errorf("Get of a new one: %d", e)
	}
}

func TestByHand(t *testing.T) { // P16.1, P16.2: without the model
	l := six()
	var id [6]api.Id
	d := dag.New()
	for i, h := range l {
		got, e := d.Add(h)
		if id[i] = idOf(h); got != id[i] || e != api.OK || d.Len() != i+1 || !d.Has(got) {
			t.Errorf("Add(%s): %.4x; %d; %d are accepted", brief(h), got, e, d.Len())
		}
	}
	inOrder := func(a, b int) []api.Id { // two of one height
		if bytes.Compare(id[a][:], id[b][:]) < 0 {
			return []api.Id{id[a], id[b]}
		}
		return []api.Id{id[b], id[a]}
	}
	wantIds(t, "All", d.All(), slices.Concat(inOrder(0, 1), inOrder(2, 4), []api.Id{id[3], id[5]}))
	wantIds(t, "Heads", d.Heads(), []api.Id{id[5]})
	wantIds(t, "Topic", d.Topic("s-tags"), []api.Id{id[1], id[3]})
	wantIds(t, "Committed", d.Committed(api.Id{7}), []api.Id{id[1], id[2]})
	wantIds(t, "Committed of none", d.Committed(api.Id{}), []api.Id{id[3]})
	wantIds(t, "Unknown", d.Unknown(api.Header{Parents: []api.Id{{9}, id[3], {8}, id[0], {9}}}), []api.Id{{9}, {8}, {9}})
	if h, e := d.Get(id[5]); e != api.OK || h.Height != 4 || len(h.Parents) != 4 || h.Commit != l[5].Commit {
		t.Errorf("Get: %s; %d", brief(h), e)
	}
}

// rows are all orders of l.
func rows(l []api.Header) [][]api.Header {
	if len(l) == 0 {
		return [][]api.Header{nil}
	}
	var all [][]api.Header
	for i := range l {
		for _, r := range rows(slices.Delete(slices.Clone(l), i, i+1)) {
			all = append(all, append([]api.Header{l[i]}, r...))
		}
	}
	return all
}

func TestAllOrders(t *testing.T) { // P16.1, P16.4: all orders of six; what is refused changes nothing, and may be accepted later
	seen := map[api.Errno]int{}
	for i, row := range rows(six()) {
		d, m := dag.New(), &model{}
		for len(m.l) < len(row) {
			for _, h := range row {
				seen[wantAdd(t, d, m, h)]++
			}
			if i%16 == 0 {
				wantDag(t, d, m, row...)
			}
		}
		wantDag(t, d, m)
		whole, _ := grown(t, six()...)
		if !slices.Equal(d.All(), whole.All()) || !slices.Equal(d.Heads(), whole.Heads()) {
			t.Errorf("the order plays a part: %.4x; %.4x", d.All(), whole.All())
		}
	}
	if seen[api.OK] < 1000 || seen[api.ErrParent] < 1000 {
		t.Errorf("the test's own: %d", seen)
	}
}

func TestStepByStep(t *testing.T) { // P16.1, P16.2: each call behind each Add
	l := six()
	d, m := dag.New(), &model{}
	wantDag(t, d, m, l...)
	for _, i := range []int{0, 1, 2, 3, 4, 5, 0, 5, 2} {
		wantAdd(t, d, m, l[i])
		wantDag(t, d, m, l...)
	}
}

func TestTwice(t *testing.T) { // P16.1: one that is accepted is told, and changes nothing
	d, m := grown(t, six()...)
	for _, h := range six() {
		for range 3 {
			if id, e := d.Add(h); id != idOf(h) || e != api.OK || d.Len() != 6 {
				t.Errorf("Add again: %.4x; %d; %d are accepted", id, e, d.Len())
			}
		}
	}
	wantDag(t, d, m, six()...)
}

func TestFirstStays(t *testing.T) { // P16.1: what Get tells is the one accepted first, to the last bit, whatever comes of its id
	for _, l := range [][2][]api.Id{{nil, {}}, {{}, nil}} {
		d, m := grown(t, six()...)
		h := root(9)
		h.Parents = l[0]
		wantAdd(t, d, m, h)
		first, _ := d.Get(idOf(h))
		if (first.Parents == nil) != (l[0] == nil) {
			t.Errorf("Get tells the Parents %#v; they were %#v", first.Parents, l[0])
		}
		for _, parents := range [][]api.Id{l[1], l[0], l[1], make([]api.Id, 0, 7)} {
			again := h
			again.Parents = parents
			wantAdd(t, d, m, again)
			if then, e := d.Get(idOf(h)); e != api.OK || !reflect.DeepEqual(then, first) {
				t.Errorf("Get behind an Add with the Parents %#v: %#v; %d; it was %#v", parents, then, e, first)
			}
		}
		wantDag(t, d, m, h)
	}
}

func TestVerdicts(t *testing.T) { // P16.1: the error of all sets of parents, at all heights
	l := six()
	d, m := grown(t, l[:4]...)
	seen := map[api.Errno]int{}
	for bits := range 1 << len(l) {
		var parents []api.Header
		for i := range l {
			if bits>>i&1 != 0 {
				parents = append(parents, l[i])
			}
		}
		for height := range 7 {
			h := over(9, height, parents...)
			if rule.Verdict(h, m.l) == api.OK {
				other, same := grown(t, l[:4]...)
				wantAdd(t, other, same, h)
				wantDag(t, other, same, h)
				seen[api.OK]++
				continue
			}
			seen[wantAdd(t, d, m, h)]++
		}
		wantDag(t, d, m, l...)
	}
	for _, e := range []api.Errno{api.OK, api.ErrParent, api.ErrHeight, api.ErrFull} {
		if seen[e] < 10 {
			t.Errorf("the test's own: %d verdicts of %d", seen[e], e)
		}
	}
}

// flaws make a header one that may not be.
var flaws = []struct {
	e    api.Errno
	make func(h *api.Header)
}{
	{api.ErrFull, func(h *api.Header) { h.Parents = []api.Id{{1}, {2}, {3}, {4}, {5}} }},
	{api.ErrForm, func(h *api.Header) { h.Parents = []api.Id{{2}, {1}} }},
	{api.ErrForm, func(h *api.Header) { h.Parents = []api.Id{{2}, {2}} }},
	{api.ErrHeight, func(h *api.Header) { h.Height = 0 }},
	{api.ErrHeight, func(h *api.Header) { h.Height = math.MinInt }},
	{api.ErrHeight, func(h *api.Header) { h.Height = math.MaxInt }},
	{api.ErrHeight, func(h *api.Header) { h.Height, h.Parents = 2, nil }},
	{api.ErrTopic, func(h *api.Header) { h.Topic = "" }},
	{api.ErrTopic, func(h *api.Header) { h.Topic = "x-likes" }},
	{api.ErrRange, func(h *api.Header) { h.Author = -1 }},
	{api.ErrRange, func(h *api.Header) { h.Author = 256 }},
	{api.ErrRange, func(h *api.Header) { h.Seq = 0 }},
	{api.ErrRange, func(h *api.Header) { h.Seq = 1<<30 + 1 }},
	{api.ErrRange, func(h *api.Header) { h.Size = 0 }},
	{api.ErrRange, func(h *api.Header) { h.Size = 513 }},
}

func TestWhatMayNotBe(t *testing.T) { // P16.1: header.Check's error comes ahead of the parents' and the height's
	l := six()
	for n := range l {
		d, m := grown(t, l[:n]...)
		for _, f := range flaws {
			for _, h := range []api.Header{root(9), l[0], over(9, 2, l[0]), over(9, 7, l[0], l[5])} {
				f.make(&h)
				if e := wantAdd(t, d, m, h); e == api.OK {
					t.Errorf("the test's own: %s", brief(h))
				}
				wantIds(t, "Unknown", d.Unknown(h), m.unknown(h))
			}
			h := root(9)
			f.make(&h)
			if _, e := d.Add(h); e != f.e {
				t.Errorf("Add(%s): %d; want %d", brief(h), e, f.e)
			}
		}
		wantDag(t, d, m, l...)
	}
}

func TestUnknown(t *testing.T) { // P16.2: in order of the Parents, each as often as it comes, whatever else h is
	l := six()
	d, m := grown(t, l[:3]...)
	pool := []api.Id{idOf(l[0]), idOf(l[2]), idOf(l[3]), idOf(l[5]), {}, {0: 1}}
	var look func(ids []api.Id, n int)
	look = func(ids []api.Id, n int) {
		for _, h := range []api.Header{{Parents: ids}, of(l[4], "x", api.Id{1})} {
			h.Parents = ids
			ids0 := slices.Clone(ids)
			wantIds(t, "Unknown "+brief(h), d.Unknown(h), m.unknown(h))
			if !slices.Equal(ids, ids0) { // P4
				t.Errorf("Unknown changed what was handed in: %.4x", ids)
			}
		}
		if n == 0 {
			return
		}
		for _, id := range pool {
			look(append(slices.Clone(ids), id), n-1)
		}
	}
	look(nil, 5)
	wantDag(t, d, m, l...)
}

func TestByEachByte(t *testing.T) { // P16.1, P16.2: an id, a sum that is like another one is not that one
	l := six()
	d, m := grown(t, l...)
	for _, h := range l {
		for i := range 32 {
			for _, turn := range []byte{1, 128} {
				id, c := idOf(h), h.Commit
				id[i] ^= turn
				c[i] ^= turn
				wantHas(t, d, m, id)
				wantIds(t, "Committed", d.Committed(c), m.committed(c))
				wantIds(t, "Unknown", d.Unknown(api.Header{Parents: []api.Id{id}}), []api.Id{id})
			}
		}
	}
	for i := range 32 { // sums that differ in one byte
		for _, b := range []byte{1, 2, 255} {
			h := of(root(0), "s-tags", api.Id{})
			h.Commit[i] = b
			wantAdd(t, d, m, h)
		}
	}
	wantDag(t, d, m)
}

func TestOrderOfHeights(t *testing.T) { // P16.2: numbers by their size, and of one height the ids byte by byte
	d, m := dag.New(), &model{}
	last := root(0)
	wantAdd(t, d, m, last)
	for n := 1; n < 270; n++ {
		last = of(over(n, n+1, last), topics[n%2], api.Id{byte(n % 3)})
		wantAdd(t, d, m, last)
	}
	for n := range 150 {
		wantAdd(t, d, m, root(1000+n))
	}
	wantIds(t, "All", d.All(), m.all())
	wantIds(t, "Heads", d.Heads(), m.heads())
	for _, s := range topics {
		wantIds(t, "Topic "+s, d.Topic(s), m.topic(s))
	}
	for n := range 4 {
		wantIds(t, "Committed", d.Committed(api.Id{byte(n)}), m.committed(api.Id{byte(n)}))
	}
}

func TestHeads(t *testing.T) { // P16.2: a head is one that is nobody's parent, however high it is
	l := six()
	for bits := range 1 << 5 { // what stands behind five roots
		var roots []api.Header
		for i := range 5 {
			roots = append(roots, root(10+i))
		}
		d, m := grown(t, roots...)
		for i := range roots {
			if bits>>i&1 != 0 {
				wantAdd(t, d, m, over(20+i, 2, roots[i]))
			}
		}
		wantIds(t, "Heads", d.Heads(), m.heads())
		if len(m.heads()) != 5 {
			t.Errorf("the test's own: %d heads", len(m.heads()))
		}
		wantAdd(t, d, m, over(30, 2, roots[:4]...))
		wantIds(t, "Heads", d.Heads(), m.heads())
	}
	d, m := grown(t, l[0], l[4])
	wantAdd(t, d, m, over(7, 2, l[1])) // what is refused is behind nobody
	wantAdd(t, d, m, over(8, 9, l[4]))
	wantIds(t, "Heads", d.Heads(), []api.Id{idOf(l[4])})
}

func TestByChance(t *testing.T) { // P16.1, P16.2, P16.4
	chance := rand.New(rand.NewSource(16))
	seen := map[api.Errno]int{}
	for range 40 {
		d, m := dag.New(), &model{}
		var world []api.Header
		for n := range 40 {
			var heads []api.Header
			for range chance.Intn(6) {
				if n > 0 {
					heads = append(heads, world[chance.Intn(n)])
				}
			}
			h, _ := rule.Next(heads, topics[chance.Intn(2)], chance.Intn(256), 1, 1, api.Id{byte(chance.Intn(5))})
			if chance.Intn(20) == 0 {
				h.Height++
			}
			if header.Check(h) != api.OK {
				h = root(n)
			}
			world = append(world, h)
		}
		for range 300 {
			seen[wantAdd(t, d, m, world[chance.Intn(len(world))])]++
			wantIds(t, "Heads", d.Heads(), m.heads())
		}
		wantDag(t, d, m, world...)
		wantWhole(t, d)
	}
	for _, e := range []api.Errno{api.OK, api.ErrParent, api.ErrHeight} {
		if seen[e] < 100 {
			t.Errorf("the test's own: %d of %d", seen[e], e)
		}
	}
}

// wantWhole looks at what follows, by d's own answers (P16.4).
func wantWhole(t *testing.T, d *dag.Dag) {
	t.Helper()
	place := map[api.Id]int{}
	for i, id := range d.All() {
		h, e := d.Get(id)
		if own, ownE := header.Ident(h); e != api.OK || ownE != api.OK || own != id {
			t.Errorf("Get(%.4x): %s; %d; its id %.4x; %d", id, brief(h), e, own, ownE)
		}
		height := 1
		for _, p := range h.Parents {
			parent, e := d.Get(p)
			if at, ok := place[p]; e != api.OK || !ok || at >= i {
				t.Errorf("the parent of %s: %d; is it ahead: %t", brief(h), e, ok)
			}
			height = max(height, parent.Height+1)
		}
		if h.Height != height {
			t.Errorf("%s: its height should be %d", brief(h), height)
		}
		place[id] = i
	}
	if len(place) != d.Len() {
		t.Errorf("All tells %d of %d", len(place), d.Len())
	}
}

func TestTwoApart(t *testing.T) { // P5: what is added to one is not in another one
	a, b := root(1), root(2)
	d, m := grown(t, a)
	other, same := grown(t, b)
	wantAdd(t, other, same, over(3, 2, a))
	wantAdd(t, other, same, over(3, 2, b))
	wantDag(t, d, m, b)
	wantDag(t, other, same, a)
}

func TestNotMade(t *testing.T) { // P16.3, P1
	var none *dag.Dag
	for _, d := range []*dag.Dag{none, {}, new(dag.Dag)} {
		for _, h := range append(six(), api.Header{}, api.Header{Height: math.MinInt, Parents: make([]api.Id, 9)}) {
			for range 2 {
				if id, e := d.Add(h); id != (api.Id{}) || e != api.ErrZero {
					t.Errorf("Add: %x; %d", id, e)
				}
			}
			if l := d.Unknown(h); len(l) != 0 {
				t.Errorf("Unknown: %x", l)
			}
			if l := d.Committed(h.Commit); len(l) != 0 {
				t.Errorf("Committed: %x", l)
			}
		}
		for _, id := range []api.Id{{}, idOf(root(1))} {
			if h, e := d.Get(id); e != api.ErrZero || !header.Same(h, api.Header{}) {
				t.Errorf("Get: %s; %d", brief(h), e)
			}
			if d.Has(id) {
				t.Error("Has: true")
			}
		}
		if l := slices.Concat(d.All(), d.Heads(), d.Topic("c-likes"), d.Topic("")); d.Len() != 0 || len(l) != 0 {
			t.Errorf("Len: %d; ids %x", d.Len(), l)
		}
	}
}

func TestCopy(t *testing.T) { // P1: the calls of a copy end, and change nothing in the first one
	d, m := grown(t, six()...)
	c := *d
	for _, h := range []api.Header{root(1), root(9), over(9, 2, root(1)), {}} {
		c.Add(h)
		c.Unknown(h)
		c.Committed(h.Commit)
		c.Has(h.Commit)
		c.Get(h.Commit)
	}
	c.Topic("c-likes")
	c.Len()
	c.All()
	c.Heads()
	wantDag(t, d, m, six()...)
}

func TestListsAreNotKept(t *testing.T) { // P4
	l := six()
	d, m := dag.New(), &model{}
	for _, h := range l {
		room := append(slices.Clone(h.Parents), api.Id{9}, api.Id{8})
		h.Parents = room[:len(h.Parents)]
		wantAdd(t, d, m, h)
		if room[len(room)-2] != (api.Id{9}) || room[len(room)-1] != (api.Id{8}) {
			t.Errorf("what stands behind a list's end was changed: %x", room)
		}
		spoil(room)
	}
	wantDag(t, d, m, l...)
	for _, h := range l { // again, and then written over
		h = copied(h)
		wantAdd(t, d, m, h)
		spoil(h.Parents)
	}
	wantDag(t, d, m, l...)
}

func TestAnswersAreNew(t *testing.T) { // P4: an answer stays as it is, whatever is added behind it
	l := six()
	d, _ := grown(t, l[:4]...)
	all, heads, topic, committed, unknown := d.All(), d.Heads(), d.Topic("c-likes"), d.Committed(api.Id{7}), d.Unknown(l[5])
	h, _ := d.Get(idOf(l[3]))
	again, _ := d.Get(idOf(l[3]))
	were := slices.Concat(all, heads, topic, committed, unknown, h.Parents)
	spoil(again.Parents)
	for _, h := range append(l, of(root(30), "c-likes", api.Id{7}), of(root(31), "c-likes", api.Id{7})) {
		d.Add(h)
	}
	for _, l := range [][]api.Id{d.All(), d.Heads(), d.Topic("c-likes"), d.Committed(api.Id{7}), d.Unknown(l[5])} {
		spoil(l)
	}
	if now := slices.Concat(all, heads, topic, committed, unknown, h.Parents); !slices.Equal(now, were) {
		t.Errorf("answers have changed: %.4x; they were %.4x", now, were)
	}
}

func TestNilAndEmpty(t *testing.T) { // P3
	a, b := root(1), root(1)
	b.Parents = []api.Id{}
	d, m := grown(t, b)
	wantAdd(t, d, m, a)
	if d.Len() != 1 {
		t.Errorf("nil and empty Parents are two headers")
	}
	wantDag(t, d, m, a, b)
	d, m = grown(t, a)
	wantAdd(t, d, m, b)
	wantDag(t, d, m, a, b)
}

func TestMany(t *testing.T) { // P1: long rows end
	const n = 1 << 15
	d := dag.New()
	for i := range n {
		if _, e := d.Add(root(i)); e != api.OK {
			t.Fatalf("Add the %d-th: %d", i, e)
		}
	}
	last := root(0)
	for i := 1; i <= n; i++ {
		last = over(n+i, i+1, last)
		if _, e := d.Add(last); e != api.OK {
			t.Fatalf("Add at height %d: %d", i+1, e)
		}
	}
	if l := d.All(); len(l) != 2*n || d.Len() != 2*n || l[2*n-1] != idOf(last) {
		t.Errorf("All: %d of %d", len(l), d.Len())
	}
	if l := d.Heads(); len(l) != n || l[n-1] != idOf(last) || slices.Contains(l, idOf(root(0))) {
		t.Errorf("Heads: %d", len(l))
	}
	if l := d.Topic("c-likes"); len(l) != 2*n {
		t.Errorf("Topic: %d", len(l))
	}
	wantIds(t, "Committed", d.Committed(root(77).Commit), []api.Id{idOf(root(77))})
	var h api.Header
	for i := range n {
		h.Parents = append(h.Parents, idOf(root(2*i)))
	}
	if l := d.Unknown(h); len(l) != n/2 || l[0] != idOf(root(n)) {
		t.Errorf("Unknown of %d parents: %d", n, len(l))
	}
	if id, e := d.Add(h); e != api.ErrFull || id != (api.Id{}) || d.Len() != 2*n {
		t.Errorf("Add with %d parents: %d", n, e)
	}
}
