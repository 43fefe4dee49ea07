package walk_test

import (
	"bytes"
	"encoding/binary"
	"fmt"
	"math"
	"math/rand"
	"slices"
	"testing"

	"petrel/api"
	"petrel/dag"
	"petrel/header"
	"petrel/walk"
)

// model is what a Dag has: who is an ancestor of whom is reckoned of all pairs, when one comes.
type model struct {
	ids     []api.Id
	heights []int
	over    [][]bool // over[i][j]: is the j-th an ancestor of the i-th?
}

// add lays behind d, and the model, a header with these parents, and tells its place.
func (m *model) add(d *dag.Dag, parents ...int) int {
	i := len(m.ids)
	h := api.Header{Height: 1, Topic: "c-likes", Author: 3, Seq: i + 1, Size: 5}
	over := make([]bool, i)
	for _, p := range parents {
		h.Parents = append(h.Parents, m.ids[p])
		h.Height = max(h.Height, m.heights[p]+1)
		over[p] = true
		for j := range m.over[p] {
			over[j] = over[j] || m.over[p][j]
		}
	}
	slices.SortFunc(h.Parents, compare)
	id, e := d.Add(h)
	if e != api.OK {
		panic(fmt.Sprint("the test's own: Add of ", h, ": ", e))
	}
	m.ids, m.heights, m.over = append(m.ids, id), append(m.heights, h.Height), append(m.over, over)
	return i
}

func compare(a, b api.Id) int {
	return bytes.Compare(a[:], b[:])
}

// those are the ids of what is wanted, by heights, then byte by byte.
func (m *model) those(wanted func(i int) bool) []api.Id {
	var l []api.Id
	for height := 1; height <= slices.Max(append([]int{0}, m.heights...)); height++ {
		l = append(l, m.level(height, wanted)...)
	}
	return l
}

func (m *model) level(height int, wanted func(i int) bool) []api.Id {
	var l []api.Id
	for i, id := range m.ids {
		if m.heights[i] == height && wanted(i) {
			l = append(l, id)
		}
	}
	slices.SortFunc(l, compare)
	return l
}

// before tells whether a is an ancestor of b.
func (m *model) before(a, b api.Id) bool {
	i, j := slices.Index(m.ids, a), slices.Index(m.ids, b)
	return i >= 0 && i < j && m.over[j][i]
}

func (m *model) isAncestor(i int, ids []api.Id) bool {
	return slices.ContainsFunc(ids, func(id api.Id) bool { return m.before(m.ids[i], id) })
}

func (m *model) ancestors(ids []api.Id) []api.Id {
	return m.those(func(i int) bool { return m.isAncestor(i, ids) })
}

func (m *model) beyond(ids []api.Id) []api.Id {
	return m.those(func(i int) bool { return !m.isAncestor(i, ids) && !slices.Contains(ids, m.ids[i]) })
}

func (m *model) levels() [][]api.Id {
	var l [][]api.Id
	for height := 1; slices.Contains(m.heights, height); height++ {
		l = append(l, m.level(height, func(int) bool { return true }))
	}
	return l
}

// spoil writes over a list that was answered, and what stands behind its end (P4).
func spoil(l []api.Id) {
	l = l[:cap(l)]
	for i := range l {
		l[i] = api.Id{1, 2, 3}
	}
}

func wantIds(t *testing.T, what string, got, want []api.Id) {
	t.Helper()
	if !slices.Equal(got, want) {
		t.Errorf("%s: %.4x; want %.4x", what, got, want)
	}
	spoil(got)
}

// wantLists asks Ancestors and Beyond of ids, twice, and looks that they stay as they are, with what stands behind their end.
func wantLists(t *testing.T, d *dag.Dag, m *model, ids []api.Id) {
	t.Helper()
	room := append(slices.Clone(ids), api.Id{9}, api.Id{8})
	for range 2 { // P5, and P4: what was answered is written over
		wantIds(t, fmt.Sprintf("Ancestors of %.4x", ids), walk.Ancestors(d, room[:len(ids)]), m.ancestors(ids))
		wantIds(t, fmt.Sprintf("Beyond %.4x", ids), walk.Beyond(d, room[:len(ids)]), m.beyond(ids))
	}
	if !slices.Equal(room, append(slices.Clone(ids), api.Id{9}, api.Id{8})) {
		t.Errorf("what was handed in was changed: %.4x; it was %.4x", room, ids)
	}
}

// wantBefore asks Before of all pairs of ids.
func wantBefore(t *testing.T, d *dag.Dag, m *model, ids []api.Id) {
	t.Helper()
	for _, a := range ids {
		for _, b := range ids {
			if got := walk.Before(d, a, b); got != m.before(a, b) {
				t.Errorf("Before(%.4x, %.4x): %t", a, b, got)
			}
		}
	}
}

func wantLevels(t *testing.T, d *dag.Dag, m *model) {
	t.Helper()
	for range 2 {
		got, want := walk.Levels(d), m.levels()
		if n := walk.Depth(d); len(got) != len(want) || n != len(want) {
			t.Errorf("Levels: %d; Depth: %d; want %d", len(got), n, len(want))
		}
		for i, l := range got[:min(len(got), len(want))] {
			wantIds(t, fmt.Sprintf("level %d", i+1), l, want[i])
		}
	}
}

// wantWhole looks that d is what it was: no call of walk changes it.
func wantWhole(t *testing.T, d *dag.Dag, m *model) {
	t.Helper()
	wantIds(t, "the dag's All", d.All(), m.those(func(int) bool { return true }))
	for _, id := range m.ids {
		h, e := d.Get(id)
		if own, _ := header.Ident(h); e != api.OK || own != id {
			t.Errorf("the dag's Get(%.4x): %d; its id is %.4x", id, e, own)
		}
	}
}

// six are a dag with each way to stand behind others: 2 stands behind 0 and 1, 3 behind 1 and 2, 4 behind 0, 5 behind 2, 3 and 4.
func six() (*dag.Dag, *model) {
	d, m := dag.New(), &model{}
	m.add(d)
	m.add(d)
	m.add(d, 0, 1)
	m.add(d, 1, 2)
	m.add(d, 0)
	m.add(d, 2, 3, 4)
	return d, m
}

// strange are ids of which nothing is accepted.
var strange = []api.Id{{}, {31: 1}, {255}}

func TestExample(t *testing.T) { // P17.2
	a, b, c := api.Id{1}, api.Id{2}, api.Id{3}
	wantIds(t, "Window", walk.Window([]api.Id{a, b, c}, 2, 2), []api.Id{c, a})
}

func TestByHand(t *testing.T) { // P17.1, P17.2: without the model
	d, m := six()
	id := m.ids
	both := func(a, b int) []api.Id { // two of one height
		l := []api.Id{id[a], id[b]}
		slices.SortFunc(l, compare)
		return l
	}
	roots, middle := both(0, 1), both(2, 4)
	wantIds(t, "Ancestors of the last one", walk.Ancestors(d, id[5:]), slices.Concat(roots, middle, id[3:4]))
	wantIds(t, "Ancestors of 3", walk.Ancestors(d, id[3:4]), append(slices.Clone(roots), id[2]))
	wantIds(t, "Ancestors of 4 and 0", walk.Ancestors(d, []api.Id{id[4], id[0]}), id[:1])
	wantIds(t, "Ancestors of a root", walk.Ancestors(d, id[1:2]), nil)
	wantIds(t, "Ancestors of 2, 3: 2 is one, 3 is none", walk.Ancestors(d, id[2:4]), append(slices.Clone(roots), id[2]))
	wantIds(t, "Beyond 4", walk.Beyond(d, id[4:5]), []api.Id{id[1], id[2], id[3], id[5]})
	wantIds(t, "Beyond 2", walk.Beyond(d, id[2:3]), []api.Id{id[4], id[3], id[5]})
	wantIds(t, "Beyond the last one", walk.Beyond(d, id[5:]), nil)
	wantIds(t, "Beyond none", walk.Beyond(d, nil), slices.Concat(roots, middle, id[3:4], id[5:]))
	if l := walk.Levels(d); len(l) != 4 || !slices.Equal(l[0], roots) || !slices.Equal(l[1], middle) || !slices.Equal(l[2], id[3:4]) || !slices.Equal(l[3], id[5:]) {
		t.Errorf("Levels: %.4x", l)
	}
	if n := walk.Depth(d); n != 4 {
		t.Errorf("Depth: %d", n)
	}
	for _, p := range [][2]int{{0, 2}, {0, 4}, {0, 3}, {0, 5}, {1, 2}, {1, 3}, {1, 5}, {2, 3}, {2, 5}, {3, 5}, {4, 5}} {
		if !walk.Before(d, id[p[0]], id[p[1]]) || walk.Before(d, id[p[1]], id[p[0]]) {
			t.Errorf("Before: %d is an ancestor of %d", p[0], p[1])
		}
	}
	for _, p := range [][2]int{{0, 1}, {1, 4}, {2, 4}, {3, 4}, {0, 0}, {5, 5}} {
		if walk.Before(d, id[p[0]], id[p[1]]) || walk.Before(d, id[p[1]], id[p[0]]) {
			t.Errorf("Before: of %d and %d none is the other one's ancestor", p[0], p[1])
		}
	}
}

func TestNone(t *testing.T) { // P17.1, P17.2: a dag in which none is accepted
	d, m := dag.New(), &model{}
	wantLists(t, d, m, nil)
	wantLists(t, d, m, strange)
	wantBefore(t, d, m, strange)
	wantLevels(t, d, m)
}

// lists hands on all lists of at most n of pool.
func lists(pool []api.Id, n int, hand func(l []api.Id)) {
	var more func(l []api.Id)
	more = func(l []api.Id) {
		hand(l)
		if len(l) == n {
			return
		}
		for _, id := range pool {
			more(append(slices.Clone(l), id))
		}
	}
	more(nil)
}

func TestAllLists(t *testing.T) { // P17.1: in any order, what comes twice, what is not accepted
	d, m := six()
	pool := append(slices.Clone(m.ids), strange[:2]...)
	lists(pool, 4, func(l []api.Id) { wantLists(t, d, m, l) })
	wantLists(t, d, m, []api.Id{}) // P3
	wantBefore(t, d, m, append(pool, strange...))
	wantLevels(t, d, m)
	wantWhole(t, d, m)
}

func TestAllDags(t *testing.T) { // P17.1, P17.2: all dags of five, all sets of their ids
	for bits := range 1 << 10 { // who stands behind whom: a bit for each pair
		d, m := dag.New(), &model{}
		rest := bits
		for i := range 5 {
			m.add(d, places(rest&(1<<i-1))...)
			rest >>= i
		}
		for chosen := range 1 << 5 {
			var ids []api.Id
			for _, i := range places(chosen) {
				ids = append(ids, m.ids[i])
			}
			wantLists(t, d, m, ids)
		}
		wantBefore(t, d, m, m.ids)
		wantLevels(t, d, m)
	}
}

// places are those of the bits that are set.
func places(bits int) []int {
	var l []int
	for i := range 32 {
		if bits>>i&1 != 0 {
			l = append(l, i)
		}
	}
	return l
}

func TestStepByStep(t *testing.T) { // P17.1, P17.2: behind each Add, refused ones among them
	d, m := dag.New(), &model{}
	for i, parents := range [][]int{{}, {0}, {}, {1, 2}, {0, 3}, {}, {3, 4, 5}, {6}, {2}, {0, 1, 7, 8}} {
		m.add(d, parents...)
		for _, h := range []api.Header{
			{},
			{Height: 7, Topic: "c-likes", Seq: 1, Size: 1, Parents: m.ids[:1]},
			{Height: 2, Topic: "c-likes", Seq: 1, Size: 1, Parents: strange[1:2]},
		} {
			if _, e := d.Add(h); e == api.OK {
				t.Errorf("the test's own: %v may be", h)
			}
		}
		lists(m.ids, 2, func(l []api.Id) { wantLists(t, d, m, l) })
		wantLists(t, d, m, append(slices.Clone(strange), m.ids[i/2:]...))
		wantBefore(t, d, m, append(slices.Clone(strange), m.ids...))
		wantLevels(t, d, m)
	}
}

func TestByEachByte(t *testing.T) { // P17.1: an id that is like another one is not that one
	d, m := six()
	for _, id := range m.ids {
		for i := range id {
			for _, turn := range []byte{1, 128} {
				like := id
				like[i] ^= turn
				wantLists(t, d, m, []api.Id{like})
				wantLists(t, d, m, []api.Id{like, m.ids[3]})
				wantBefore(t, d, m, []api.Id{like, m.ids[5], m.ids[0]})
			}
		}
	}
}

func TestByChance(t *testing.T) { // P17.1, P17.2, P17.3
	chance := rand.New(rand.NewSource(17))
	for round := range 30 {
		d, m := dag.New(), &model{}
		for i := range 60 {
			m.add(d, someOf(chance, i, round%5)...)
		}
		for range 60 {
			var ids []api.Id
			for range chance.Intn(6) {
				ids = append(ids, m.ids[chance.Intn(len(m.ids))])
			}
			if chance.Intn(4) == 0 {
				ids = append(ids, strange[chance.Intn(3)])
			}
			wantLists(t, d, m, ids)
		}
		wantBefore(t, d, m, m.ids)
		wantLevels(t, d, m)
		wantOrder(t, d)
		wantWhole(t, d, m)
	}
}

// someOf are at most n places of the last ones below i.
func someOf(chance *rand.Rand, i, n int) []int {
	var l []int
	for range n {
		if back := 1 + chance.Intn(8); back <= i && !slices.Contains(l, i-back) {
			l = append(l, i-back)
		}
	}
	return l
}

// wantOrder looks at what follows, by the calls' own answers (P17.3).
func wantOrder(t *testing.T, d *dag.Dag) {
	t.Helper()
	all := d.All()
	if l := slices.Concat(walk.Levels(d)...); !slices.Equal(l, all) {
		t.Errorf("Levels: %.4x; want each of %.4x once", l, all)
	}
	ahead := make([][]bool, len(all))
	for i, a := range all {
		for _, b := range all {
			ahead[i] = append(ahead[i], walk.Before(d, a, b))
		}
	}
	for i := range all {
		for j := range all {
			if ahead[i][j] && i >= j {
				t.Errorf("the %d-th is ahead of the %d-th", i, j)
			}
			for k := range all {
				if ahead[i][j] && ahead[j][k] && !ahead[i][k] {
					t.Errorf("the %d-th is ahead of the %d-th, and that of the %d-th", i, j, k)
				}
			}
		}
	}
}

func TestOrderOfHeights(t *testing.T) { // numbers by their size, past one byte
	d, m := dag.New(), &model{}
	for i := range 300 {
		if i == 0 {
			m.add(d)
		} else {
			m.add(d, i-1)
		}
	}
	for range 100 {
		m.add(d, 298)
	}
	top := m.add(d, 310, 350, 399, 5)
	for _, ids := range [][]api.Id{{m.ids[top]}, {m.ids[299]}, {m.ids[256], m.ids[0]}, m.ids, slices.Repeat(m.ids, 3), nil} {
		wantLists(t, d, m, ids)
	}
	wantLevels(t, d, m)
}

// windowTold is Window as the chapter tells it, id by id.
func windowTold(l []api.Id, at, n int) []api.Id {
	if len(l) <= n {
		return l
	}
	if at < 0 {
		at = 0
	}
	var w []api.Id
	for i := at % len(l); len(w) < n; i++ {
		if i == len(l) {
			i = 0
		}
		w = append(w, l[i])
	}
	return w
}

// numbered are n ids, no two alike, that neither rise nor fall.
func numbered(n int) []api.Id {
	l := make([]api.Id, n)
	for i := range l {
		binary.BigEndian.PutUint32(l[i][:], uint32(i+1)*2654435761)
	}
	return l
}

func TestWindow(t *testing.T) { // P17.2: all places and counts about all short lists, and at their ends
	var numbers []int
	for i := -9; i < 40; i++ {
		numbers = append(numbers, i)
	}
	numbers = append(numbers, math.MinInt, math.MinInt+1, math.MaxInt, math.MaxInt-1, math.MaxInt-7, 1<<31-1, 1<<31, 1<<31+1, -1<<31, 1<<34)
	for length := range 13 {
		l := numbered(length)
		room := append(slices.Clone(l), api.Id{9}, api.Id{8})
		for _, at := range numbers {
			for _, n := range numbers {
				wantIds(t, fmt.Sprintf("Window of %d, %d, %d", length, at, n), walk.Window(room[:length], at, n), windowTold(l, at, max(n, 0)))
			}
		}
		if !slices.Equal(room, append(slices.Clone(l), api.Id{9}, api.Id{8})) {
			t.Errorf("what was handed in was changed: %.4x", room)
		}
	}
}

func TestWindowByHand(t *testing.T) { // P17.2
	a, b, c := api.Id{3}, api.Id{1}, api.Id{2}
	l := []api.Id{a, b, c}
	for _, w := range []struct {
		l     []api.Id
		at, n int
		want  []api.Id
	}{
		{l, 0, 2, []api.Id{a, b}},
		{l, 1, 2, []api.Id{b, c}},
		{l, 2, 2, []api.Id{c, a}},
		{l, 3, 2, []api.Id{a, b}},
		{l, 5, 1, []api.Id{c}},
		{l, -1, 2, []api.Id{a, b}},
		{l, math.MinInt, 1, []api.Id{a}},
		{l, math.MaxInt, 2, []api.Id{b, c}}, // 2^63 - 1 is one more than a multiple of 3
		{l, 1, 0, nil},
		{l, 1, -1, nil},
		{l, 1, math.MinInt, nil},
		{l, 1, 3, l}, // it has not more: all, as they stand
		{l, 2, 4, l},
		{l, -1, 3, l},
		{l, math.MaxInt, math.MaxInt, l},
		{[]api.Id{a, a, b}, 1, 2, []api.Id{a, b}}, // one that comes twice
		{[]api.Id{a, a, b}, 2, 2, []api.Id{b, a}},
		{[]api.Id{a}, 7, 1, []api.Id{a}},
		{nil, 0, 1, nil},
		{nil, 0, 0, nil},
		{nil, 3, -1, nil},
		{[]api.Id{}, 3, -1, nil},
		{[]api.Id{}, -3, 5, nil},
	} {
		wantIds(t, fmt.Sprintf("Window of %.1x, %d, %d", w.l, w.at, w.n), walk.Window(w.l, w.at, w.n), w.want)
	}
	if !slices.Equal(l, []api.Id{a, b, c}) {
		t.Errorf("what was handed in was changed: %.1x", l)
	}
}

func TestWindowsThatFollow(t *testing.T) { // P17.3: they have all ids of a list
	for length := range 40 {
		l := numbered(length)
		for n := 1; n < 45; n++ {
			met := map[api.Id]int{}
			for at := 0; at < length; at += n {
				for _, id := range walk.Window(l, at, n) {
					met[id]++
				}
			}
			if len(met) != length {
				t.Errorf("windows of %d have %d of %d", n, len(met), length)
			}
		}
	}
}

func TestAnswersAreNew(t *testing.T) { // P4: no list of an answer shares anything with another one, or with what was handed in
	d, m := six()
	levels := walk.Levels(d)
	for i := range levels {
		spoil(append(levels[i], api.Id{7}))
		spoil(levels[i])
		for j := i + 1; j < len(levels); j++ {
			if !slices.Equal(levels[j], m.levels()[j]) {
				t.Errorf("levels %d and %d share what they stand in", i+1, j+1)
			}
		}
	}
	wantLevels(t, d, m)
	for _, n := range []int{1, 5, 6, 7} {
		w := walk.Window(m.ids, 0, n)
		for i := range w {
			w[i] = api.Id{1}
		}
		spoil(append(w, api.Id{7}))
	}
	if slices.Contains(m.ids, api.Id{1}) {
		t.Error("Window hands out the list that was handed in")
	}
	wantWhole(t, d, m)

	ancestors, beyond, levels := walk.Ancestors(d, m.ids[3:]), walk.Beyond(d, m.ids[:1]), walk.Levels(d)
	were := slices.Concat(append(levels, ancestors, beyond)...)
	for range 5 {
		m.add(d, len(m.ids)-1, 0)
		walk.Ancestors(d, m.ids)
		walk.Beyond(d, nil)
		walk.Levels(d)
	}
	if now := slices.Concat(append(levels, ancestors, beyond)...); !slices.Equal(now, were) {
		t.Errorf("answers have changed: %.4x; they were %.4x", now, were)
	}
}

func TestTwoApart(t *testing.T) { // P5: one dag's calls have nothing to do with another one
	d, m := six()
	other, same := dag.New(), &model{}
	same.add(other)
	same.add(other, 0)
	for range 2 {
		wantLists(t, d, m, m.ids[2:4])
		wantLists(t, other, same, append(slices.Clone(m.ids[2:]), same.ids...))
		wantBefore(t, other, same, append(slices.Clone(m.ids[2:]), same.ids...))
		wantLevels(t, other, same)
		wantLevels(t, d, m)
	}
}

func TestNotMade(t *testing.T) { // P1: of a dag that dag.New did not make there is nothing to tell
	made, m := six()
	copied := *made
	var none *dag.Dag
	for _, d := range []*dag.Dag{none, {}, new(dag.Dag), &copied} {
		for _, ids := range [][]api.Id{nil, {}, strange, m.ids} {
			ancestors, beyond, levels := walk.Ancestors(d, ids), walk.Beyond(d, ids), walk.Levels(d)
			before := walk.Before(d, m.ids[0], m.ids[5]) || walk.Before(d, api.Id{}, api.Id{})
			if d != &copied && (len(ancestors) != 0 || len(beyond) != 0 || len(levels) != 0 || walk.Depth(d) != 0 || before) {
				t.Errorf("of a dag that was not made: %.4x, %.4x, %.4x, %d, %t", ancestors, beyond, levels, walk.Depth(d), before)
			}
		}
	}
	wantLists(t, made, m, m.ids)
	wantWhole(t, made, m)
}

func TestManyWays(t *testing.T) { // P1: each ancestor once, though there are 4^100 ways to the first ones
	d, m := dag.New(), &model{}
	for i := range 4 * 100 {
		if i < 4 {
			m.add(d)
		} else {
			first := i/4*4 - 4
			m.add(d, first, first+1, first+2, first+3)
		}
	}
	last := m.ids[len(m.ids)-1:]
	wantLists(t, d, m, last)
	if !walk.Before(d, m.ids[0], last[0]) || walk.Before(d, m.ids[len(m.ids)-2], last[0]) || walk.Before(d, strange[0], last[0]) {
		t.Error("Before")
	}
	wantLevels(t, d, m)
}

func TestMany(t *testing.T) { // P1: long rows and wide ones end
	const n = 1 << 15
	d := dag.New()
	row := make([]api.Id, n)
	for i := range row {
		h := api.Header{Height: i + 1, Topic: "c-likes", Seq: 1, Size: 5}
		if i > 0 {
			h.Parents = row[i-1 : i]
		}
		row[i], _ = d.Add(h)
	}
	for i := range n {
		d.Add(api.Header{Height: 1, Topic: "c-likes", Seq: i + 2, Size: 5})
	}
	last := row[n-1:]
	wantIds(t, "Ancestors", walk.Ancestors(d, last), row[:n-1])
	wantIds(t, "Ancestors of all", walk.Ancestors(d, slices.Repeat(d.All(), 3)), row[:n-1])
	if l := walk.Beyond(d, last); len(l) != n || slices.Contains(l, row[0]) {
		t.Errorf("Beyond: %d", len(l))
	}
	if l := walk.Levels(d); len(l) != n || len(l[0]) != n+1 || len(l[n-1]) != 1 || walk.Depth(d) != n {
		t.Errorf("Levels: %d", len(l))
	}
	if !walk.Before(d, row[0], last[0]) || walk.Before(d, last[0], row[0]) || walk.Before(d, last[0], last[0]) {
		t.Error("Before")
	}
	wantIds(t, "Window", walk.Window(row, n-2, n-1), append(slices.Clone(row[n-2:]), row[:n-3]...))
}
