package op_test

import (
	"bytes"
	"encoding/binary"
	"encoding/hex"
	"fmt"
	"math"
	"math/rand"
	"reflect"
	"slices"
	"strings"
	"testing"

	"petrel/api"
	"petrel/op"
)

// parts are what each kind has, in the chapter's order: N, Key, Val, Ref, Refs by their letters.
var parts = map[int]string{
	api.OInc: "N", api.OAdd: "V", api.ORemove: "VS", api.OSet: "KVN", api.OPut: "KVS", api.OInsert: "RV", api.ODelete: "R",
}

// belongs are the topics' kinds, as the chapter has them.
var belongs = map[int]int{
	api.OInc: api.TTally, api.OAdd: api.TBag, api.ORemove: api.TBag, api.OSet: api.TLast, api.OPut: api.TMulti, api.OInsert: api.TSeq, api.ODelete: api.TSeq,
}

// kinds are all that there are.
var kinds = []int{1, 2, 3, 4, 5, 6, 7}

// noKinds are numbers of which there is no kind; some are one in their lowest byte, or their lowest four.
var noKinds = []int{
	api.ONone, api.ODelete + 1, 9, 15, 127, 128, 255, 256, 257, 258, 263, -1, -2, -7, -249, -255, 1<<32 + 1, 1<<32 + 7,
	math.MinInt32, math.MaxInt32, math.MinInt, math.MinInt + 1, math.MinInt + 7, math.MaxInt - 1, math.MaxInt,
}

// id is an id whose bytes are all x, but the last one.
func id(x, last byte) api.Id {
	l := api.Id(bytes.Repeat([]byte{x}, 32))
	l[31] = last
	return l
}

// ids are n ids that rise, from the zero one on.
func ids(n int) []api.Id {
	var l []api.Id
	for i := range n {
		l = append(l, api.Id{0: byte(i / 2), 31: byte(i)})
	}
	return l
}

// full is an operation that has all that its kind has, of no small size.
func full(k int) api.Op {
	o := api.Op{K: k}
	for _, p := range parts[k] {
		switch p {
		case 'N':
			o.N = 0x01020304
		case 'K':
			o.Key = "key"
		case 'V':
			o.Val = "value"
		case 'R':
			o.Ref = id(7, 9)
		case 'S':
			o.Refs = []api.Id{id(1, 2), id(1, 3), id(200, 0)}
		}
	}
	return o
}

func has(k int, part string) bool { return strings.Contains(parts[k], part) }

// checkTold is Check as the chapter tells it, sentence by sentence.
func checkTold(o api.Op) api.Errno {
	if parts[o.K] == "" {
		return api.ErrKind
	}
	if !has(o.K, "N") && o.N != 0 || !has(o.K, "K") && o.Key != "" || !has(o.K, "V") && o.Val != "" || !has(o.K, "R") && o.Ref != (api.Id{}) || !has(o.K, "S") && len(o.Refs) != 0 {
		return api.ErrForm
	}
	if len(o.Key) > 16 || len(o.Val) > 16 {
		return api.ErrLong
	}
	if o.N >= 1<<31 || o.N < -1<<31 || o.K == api.OSet && o.N < 0 {
		return api.ErrRange
	}
	if len(o.Refs) > 8 {
		return api.ErrFull
	}
	for i := 1; i < len(o.Refs); i++ {
		if bytes.Compare(o.Refs[i-1][:], o.Refs[i][:]) >= 0 {
			return api.ErrForm
		}
	}
	return api.OK
}

// putTold is the bytes of o, whether or not it may be one, as long as lengths fit.
func putTold(o api.Op) string {
	l := []byte{byte(o.K)}
	for _, p := range parts[o.K] {
		switch p {
		case 'N':
			n := o.N
			if o.K == api.OInc {
				n += 1 << 31
			}
			l = binary.BigEndian.AppendUint32(l, uint32(n))
		case 'K':
			l = append(append(l, byte(len(o.Key))), o.Key...)
		case 'V':
			l = append(append(l, byte(len(o.Val))), o.Val...)
		case 'R':
			l = append(l, o.Ref[:]...)
		case 'S':
			l = append(l, byte(len(o.Refs)))
			for _, id := range o.Refs {
				l = append(l, id[:]...)
			}
		}
	}
	return string(l)
}

// ofTold is Of as the chapter tells it, place by place.
func ofTold(s string) (api.Op, api.Errno) {
	if s == "" {
		return api.Op{}, api.ErrShort
	}
	o, at := api.Op{K: int(s[0])}, 1
	if parts[o.K] == "" {
		return api.Op{}, api.ErrKind
	}
	short := false
	cut := func(n int) string {
		if short = short || len(s)-at < n; short {
			return strings.Repeat("\x00", n)
		}
		at += n
		return s[at-n : at]
	}
	for _, p := range parts[o.K] {
		switch p {
		case 'N':
			o.N = int(binary.BigEndian.Uint32([]byte(cut(4))))
			if o.K == api.OInc {
				o.N -= 1 << 31
			}
		case 'K':
			o.Key = cut(int(cut(1)[0]))
		case 'V':
			o.Val = cut(int(cut(1)[0]))
		case 'R':
			o.Ref = api.Id([]byte(cut(32)))
		case 'S':
			for range cut(1)[0] {
				o.Refs = append(o.Refs, api.Id([]byte(cut(32))))
			}
		}
	}
	switch e := checkTold(o); {
	case short:
		return api.Op{}, api.ErrShort
	case at != len(s):
		return api.Op{}, api.ErrForm
	case e != api.OK:
		return api.Op{}, e
	}
	return o, api.OK
}

// sameTold holds a against b by all that they have.
func sameTold(a, b api.Op) bool {
	if len(a.Refs) == 0 {
		a.Refs = nil
	}
	if len(b.Refs) == 0 {
		b.Refs = nil
	}
	return reflect.DeepEqual(a, b)
}

func brief(o api.Op) string {
	return fmt.Sprintf("%d, N %d, Key %.20q, Val %.20q, Ref %x, %d Refs", o.K, o.N, o.Key, o.Val, o.Ref[:2], len(o.Refs))
}

// wantOp looks at all that is told of o: its error, its bytes, and what is read of these.
func wantOp(t *testing.T, o api.Op, want api.Errno) {
	t.Helper()
	if e := op.Check(o); e != want {
		t.Errorf("Check(%s): %d; want %d", brief(o), e, want)
	}
	s, e := op.Put(o)
	if e != want {
		t.Errorf("Put(%s): %d; want %d", brief(o), e, want)
	}
	if want != api.OK {
		if s != "" {
			t.Errorf("Put(%s): %x beside %d", brief(o), s, e)
		}
		return
	}
	if s != putTold(o) {
		t.Errorf("Put(%s): %x; want %x", brief(o), s, putTold(o))
	}
	wantOf(t, s, o, api.OK)
}

// wantOf looks at what is read of s.
func wantOf(t *testing.T, s string, want api.Op, wantE api.Errno) {
	t.Helper()
	o, e := op.Of(s)
	if e != wantE || !sameTold(o, want) {
		t.Errorf("Of(%.60x): %s; %d; want %s; %d", s, brief(o), e, brief(want), wantE)
	}
	if e != api.OK {
		return
	}
	if again, e := op.Put(o); again != s || e != api.OK { // P7.3
		t.Errorf("Put of what Of(%x) is: %x, %d", s, again, e)
	}
}

// all are operations of each kind, each of whose parts is one of some, at its ends and past them.
func all() []api.Op {
	var ops []api.Op
	for _, k := range kinds {
		l := []api.Op{{K: k}}
		for _, p := range parts[k] {
			var next []api.Op
			for _, o := range l {
				next = append(next, turned(o, p)...)
			}
			l = next
		}
		ops = append(ops, l...)
	}
	return ops
}

// turned is o with each of some values of one of its parts.
func turned(o api.Op, part rune) []api.Op {
	var l []api.Op
	put := func(set func(o *api.Op)) {
		c := o
		set(&c)
		l = append(l, c)
	}
	switch part {
	case 'N':
		for _, n := range numbers {
			put(func(o *api.Op) { o.N = n })
		}
	case 'K':
		for _, s := range texts() {
			put(func(o *api.Op) { o.Key = s })
		}
	case 'V':
		for _, s := range texts() {
			put(func(o *api.Op) { o.Val = s })
		}
	case 'R':
		for _, x := range []api.Id{{}, {31: 1}, {0: 255}, id(3, 3), id(255, 255)} {
			put(func(o *api.Op) { o.Ref = x })
		}
	case 'S':
		for _, refs := range lists() {
			put(func(o *api.Op) { o.Refs = refs })
		}
	}
	return l
}

// numbers are of both signs, at the ends that the chapter names, and of more than four bytes.
var numbers = []int{
	0, 1, -1, 2, 255, 256, -256, 65535, 65536, 1 << 24, -1 << 24, 1<<31 - 2, 1<<31 - 1, 1 << 31, 1<<31 + 1, -1<<31 + 1, -1 << 31, -1<<31 - 1,
	1<<32 - 1, 1 << 32, 1<<32 + 1, -1 << 32, -1<<32 - 1, 1 << 62, math.MaxInt, math.MaxInt - 1<<31, math.MaxInt - 1<<31 + 1, math.MinInt, math.MinInt + 1<<31,
}

// texts are of any bytes, at the ends that the chapter names, and as long as their lowest byte tells otherwise.
func texts() []string {
	return []string{"", "a", "\x00", "\xff", "ab\x00\n", "éé世", strings.Repeat("x", 15), strings.Repeat("\xff", 16), strings.Repeat("y", 17), strings.Repeat("\x00", 255), strings.Repeat("z", 256), strings.Repeat("z", 260)}
}

// lists are sets of ids, and lists that are none.
func lists() [][]api.Id {
	a, b, c := id(0, 1), id(0, 2), id(128, 0)
	return [][]api.Id{
		nil, {}, {{}}, {a}, {c}, {a, b}, {a, c}, {{}, a, b, c}, ids(7), ids(8),
		{a, a}, {b, a}, {c, a}, {a, b, b}, {a, c, b}, {{}, {}}, {a, {}}, append(ids(7), id(0, 0)),
		ids(9), ids(255), ids(256), ids(264), append(ids(8), ids(1)...), slices.Repeat([]api.Id{a}, 9),
	}
}

func TestExample(t *testing.T) { // P7.2
	s, e := op.Put(api.Op{K: api.OInc, N: 1})
	if hex.EncodeToString([]byte(s)) != "0180000001" || e != api.OK {
		t.Errorf("OInc 1: %x, %d", s, e)
	}
}

func TestBytesByHand(t *testing.T) { // P7.2: each kind's, written out
	one, two := strings.Repeat("11", 32), strings.Repeat("22", 31)+"00"
	ref, refs := id(0x11, 0x11), []api.Id{id(0x11, 0x11), id(0x22, 0)}
	for _, c := range []struct {
		o    api.Op
		want string
	}{
		{api.Op{K: api.OInc}, "01 80000000"},
		{api.Op{K: api.OInc, N: -1}, "01 7fffffff"},
		{api.Op{K: api.OInc, N: -1 << 31}, "01 00000000"},
		{api.Op{K: api.OInc, N: 1<<31 - 1}, "01 ffffffff"},
		{api.Op{K: api.OInc, N: 0x01020304}, "01 81020304"},
		{api.Op{K: api.OAdd}, "02 00"},
		{api.Op{K: api.OAdd, Val: "abc"}, "02 03 616263"},
		{api.Op{K: api.OAdd, Val: "0123456789abcdef"}, "02 10 30313233343536373839616263646566"},
		{api.Op{K: api.ORemove}, "03 00 00"},
		{api.Op{K: api.ORemove, Val: "a", Refs: refs}, "03 01 61 02" + one + two},
		{api.Op{K: api.OSet}, "04 00 00 00000000"},
		{api.Op{K: api.OSet, Key: "k", Val: "vw", N: 0x01020304}, "04 01 6b 02 7677 01020304"},
		{api.Op{K: api.OSet, Key: "kl", N: 1<<31 - 1}, "04 02 6b6c 00 7fffffff"},
		{api.Op{K: api.OPut}, "05 00 00 00"},
		{api.Op{K: api.OPut, Key: "kl", Val: "v", Refs: refs[:1]}, "05 02 6b6c 01 76 01" + one},
		{api.Op{K: api.OInsert}, "06" + strings.Repeat("00", 32) + "00"},
		{api.Op{K: api.OInsert, Ref: ref, Val: "v"}, "06" + one + "01 76"},
		{api.Op{K: api.ODelete}, "07" + strings.Repeat("00", 32)},
		{api.Op{K: api.ODelete, Ref: ref}, "07" + one},
	} {
		want := strings.ReplaceAll(c.want, " ", "")
		if s, e := op.Put(c.o); hex.EncodeToString([]byte(s)) != want || e != api.OK {
			t.Errorf("Put(%s): %x, %d; want %s", brief(c.o), s, e, want)
		}
		wantOp(t, c.o, api.OK)
	}
}

func TestAllParts(t *testing.T) { // P7.1, P7.2, P7.3: each kind, each value of each of its parts
	seen := map[api.Errno]int{}
	for _, o := range all() {
		want := checkTold(o)
		seen[want]++
		wantOp(t, o, want)
		if len(o.Key) < 256 && len(o.Val) < 256 && len(o.Refs) < 256 && (o.N >= 0 || o.K == api.OInc) && o.N>>32 == 0 && want != api.ErrRange {
			x, e := op.Of(putTold(o)) // what may not be put may not be read
			if e != want || e != api.OK && !sameTold(x, api.Op{}) {
				t.Errorf("Of the bytes of %s: %s; %d; want %d", brief(o), brief(x), e, want)
			}
		}
	}
	for _, e := range []api.Errno{api.OK, api.ErrLong, api.ErrRange, api.ErrFull, api.ErrForm} {
		if seen[e] < 10 {
			t.Errorf("the test's own: %d operations of error %d", seen[e], e)
		}
	}
}

func TestNoKinds(t *testing.T) { // P7.1: whatever else is wrong with it
	for _, k := range noKinds {
		wantOp(t, api.Op{K: k}, api.ErrKind)
		for _, like := range kinds {
			o := full(like)
			o.K = k
			wantOp(t, o, api.ErrKind)
		}
		wantOp(t, api.Op{K: k, N: 1 << 40, Key: texts()[8], Val: texts()[8], Ref: id(1, 1), Refs: ids(9)}, api.ErrKind)
	}
	for k := -1000; k <= 1000; k++ {
		if is := k >= 1 && k <= 7; (op.Check(api.Op{K: k}) == api.OK) != is {
			t.Errorf("Check of kind %d: %d", k, op.Check(api.Op{K: k}))
		}
	}
}

func TestWhatAKindHasNot(t *testing.T) { // P7.1: it must be zero, whatever else is wrong
	for _, k := range kinds {
		for _, o := range []api.Op{{K: k}, full(k)} {
			wantOp(t, o, api.OK)
			n, key, val, ref, refs, none := o, o, o, o, o, o
			for _, x := range []int{1, -1, 1 << 31, -1 << 40, math.MinInt, math.MaxInt} {
				n.N = x
				wantOp(t, n, checkTold(n))
			}
			for _, x := range []string{"a", "\x00", strings.Repeat("x", 16), strings.Repeat("x", 17)} {
				key.Key, val.Val = x, x
				wantOp(t, key, checkTold(key))
				wantOp(t, val, checkTold(val))
			}
			for _, x := range []api.Id{{31: 1}, {0: 1}, id(255, 255)} {
				ref.Ref = x
				wantOp(t, ref, checkTold(ref))
			}
			for _, x := range [][]api.Id{{{}}, ids(2), ids(8), ids(9), {id(1, 0), id(0, 0)}} {
				refs.Refs = x
				wantOp(t, refs, checkTold(refs))
			}
			if none.Refs = []api.Id{}; !has(k, "S") {
				wantOp(t, none, api.OK) // P3: an empty list is none
			}
		}
		for _, o := range []api.Op{{N: 1}, {Key: "a"}, {Val: "a"}, {Ref: id(0, 1)}, {Refs: ids(1)}} {
			o.K = k
			want := api.ErrForm
			if has(k, "N") && o.N != 0 || has(k, "K") && o.Key != "" || has(k, "V") && o.Val != "" || has(k, "R") && o.Ref != (api.Id{}) || has(k, "S") && o.Refs != nil {
				want = api.OK
			}
			wantOp(t, o, want)
		}
	}
}

func TestEndsOfNumbers(t *testing.T) { // P7.1, Limits: below MaxNumber, not below its negative; of OSet not below 0
	for n, want := range map[int]api.Errno{
		api.MaxNumber: api.ErrRange, api.MaxNumber - 1: api.OK, 0: api.OK, -1: api.OK, -api.MaxNumber: api.OK, -api.MaxNumber - 1: api.ErrRange, math.MaxInt: api.ErrRange, math.MinInt: api.ErrRange,
	} {
		wantOp(t, api.Op{K: api.OInc, N: n}, want)
		if n < 0 {
			want = api.ErrRange
		}
		wantOp(t, api.Op{K: api.OSet, Key: "k", Val: "v", N: n}, want)
	}
	for _, s := range []string{"\x80\x00\x00\x00", "\xff\xff\xff\xff"} {
		wantOf(t, "\x04\x01k\x01v"+s, api.Op{}, api.ErrRange)
	}
	wantOf(t, "\x04\x01k\x01v\x7f\xff\xff\xff", api.Op{K: api.OSet, Key: "k", Val: "v", N: api.MaxNumber - 1}, api.OK)
}

func TestEndsOfTexts(t *testing.T) { // P7.1, Limits
	for n := range 300 {
		s := strings.Repeat("t", n)
		want := api.OK
		if n > api.MaxText {
			want = api.ErrLong
		}
		wantOp(t, api.Op{K: api.OAdd, Val: s}, want)
		wantOp(t, api.Op{K: api.ORemove, Val: s}, want)
		wantOp(t, api.Op{K: api.OSet, Key: s}, want)
		wantOp(t, api.Op{K: api.OSet, Val: s}, want)
		wantOp(t, api.Op{K: api.OPut, Key: s}, want)
		wantOp(t, api.Op{K: api.OPut, Val: s}, want)
		wantOp(t, api.Op{K: api.OInsert, Val: s}, want)
		if n > api.MaxText && n < 256 {
			wantOf(t, "\x02"+string([]byte{byte(n)})+s, api.Op{}, api.ErrLong)
			wantOf(t, "\x05"+string([]byte{byte(n)})+s+"\x00\x00", api.Op{}, api.ErrLong)
		}
	}
}

func TestEndsOfRefs(t *testing.T) { // P7.1, Limits
	for n := range 300 {
		want := api.OK
		if n > api.MaxRefs {
			want = api.ErrFull
		}
		for _, k := range []int{api.ORemove, api.OPut} {
			o := api.Op{K: k, Val: "v", Refs: slices.SortedFunc(slices.Values(ids(n)), func(a, b api.Id) int { return bytes.Compare(a[:], b[:]) })}
			wantOp(t, o, want)
			if n > 0 && n < 256 {
				wantOf(t, putTold(o), orZero(o, want), want)
			}
		}
	}
}

// orZero is o, or the zero one beside an error.
func orZero(o api.Op, e api.Errno) api.Op {
	if e != api.OK {
		return api.Op{}
	}
	return o
}

func TestRefsMustRise(t *testing.T) { // P7.1: all lists of three of these, all pairs of lists of eight that are turned
	l := []api.Id{{}, {31: 1}, {15: 1}, {0: 1}, {0: 0x80}, id(255, 254), id(255, 255)}
	for i := range l {
		for j := range l {
			for k := range l {
				want := api.ErrForm
				if i < j && j < k {
					want = api.OK
				}
				o := api.Op{K: api.OPut, Refs: []api.Id{l[i], l[j], l[k]}}
				wantOp(t, o, want)
				wantOf(t, putTold(o), orZero(o, want), want)
			}
		}
	}
	for i := range 8 {
		for j := range i {
			o := api.Op{K: api.ORemove, Refs: ids(8)}
			o.Refs[i], o.Refs[j] = o.Refs[j], o.Refs[i]
			wantOp(t, o, api.ErrForm)
			o.Refs[i] = o.Refs[j]
			wantOp(t, o, api.ErrForm)
		}
	}
}

func TestOrderOfErrors(t *testing.T) { // P7.1, P2
	long, down := strings.Repeat("l", 17), []api.Id{id(1, 1), id(1, 0)}
	fall := append(ids(8), id(0, 0))
	for _, c := range []struct {
		o    api.Op
		want api.Errno
	}{
		{api.Op{K: api.OInc, N: 1 << 31, Val: "v"}, api.ErrForm},
		{api.Op{K: api.OAdd, Val: long, Key: "k"}, api.ErrForm},
		{api.Op{K: api.OAdd, Key: long}, api.ErrForm},
		{api.Op{K: api.OAdd, N: 1 << 31}, api.ErrForm},
		{api.Op{K: api.OAdd, Refs: ids(9)}, api.ErrForm},
		{api.Op{K: api.OSet, Key: long, N: -1}, api.ErrLong},
		{api.Op{K: api.OSet, Val: long, N: 1 << 31}, api.ErrLong},
		{api.Op{K: api.OSet, Val: long, N: 1 << 31, Ref: id(0, 1)}, api.ErrForm},
		{api.Op{K: api.OSet, N: -1, Refs: ids(9)}, api.ErrForm},
		{api.Op{K: api.ORemove, Val: long, Refs: ids(9)}, api.ErrLong},
		{api.Op{K: api.ORemove, Val: long, Refs: down}, api.ErrLong},
		{api.Op{K: api.ORemove, Refs: fall}, api.ErrFull},
		{api.Op{K: api.OPut, Key: long, Refs: fall}, api.ErrLong},
		{api.Op{K: api.OPut, Refs: fall}, api.ErrFull},
		{api.Op{K: api.OPut, Refs: fall, N: 1}, api.ErrForm},
		{api.Op{K: api.OPut, Refs: down}, api.ErrForm},
		{api.Op{K: api.OInsert, Val: long}, api.ErrLong},
		{api.Op{K: api.OInsert, Val: long, N: -1 << 31}, api.ErrForm},
	} {
		wantOp(t, c.o, c.want)
	}
}

func TestOrderOfErrorsOfTexts(t *testing.T) { // P7.2: what can't be read, what is left, then Check's
	long := "\x11" + strings.Repeat("l", 17)
	refs := func(l ...api.Id) string { return putTold(api.Op{K: api.ORemove, Refs: l})[2:] }
	down, nine := refs(id(1, 1), id(1, 0)), refs(append(ids(8), id(0, 0))...)
	for _, c := range []struct {
		s    string
		want api.Errno
	}{
		{"\x02" + long, api.ErrLong},
		{"\x02" + long + "\x00", api.ErrForm},
		{"\x02" + long[:17], api.ErrShort},
		{"\x02\xff", api.ErrShort},
		{"\x03" + long + nine, api.ErrLong},
		{"\x03" + long + down, api.ErrLong},
		{"\x03" + long + down + "\x00", api.ErrForm},
		{"\x03" + long + down[:len(down)-1], api.ErrShort},
		{"\x03" + long, api.ErrShort},
		{"\x03\x00" + nine, api.ErrFull},
		{"\x03\x00" + nine + "\x00", api.ErrForm},
		{"\x03\x00" + nine[:len(nine)-1], api.ErrShort},
		{"\x03\x00" + down, api.ErrForm},
		{"\x03\x00" + down[:len(down)-1], api.ErrShort},
		{"\x03\x00\xff", api.ErrShort},
		{"\x04" + long + long + "\xff\xff\xff\xff", api.ErrLong},
		{"\x04" + long + long + "\xff\xff\xff", api.ErrShort},
		{"\x04\x00" + long + "\xff\xff\xff\xff", api.ErrLong},
		{"\x04\x00\x00\xff\xff\xff\xff", api.ErrRange},
		{"\x04\x00\x00\xff\xff\xff\xff\xff", api.ErrForm},
		{"\x05" + long + long + nine, api.ErrLong},
		{"\x05\x00\x00" + nine, api.ErrFull},
		{"\x05\x00\x00" + down, api.ErrForm},
		{"\x06" + strings.Repeat("r", 32) + long, api.ErrLong},
		{"\x06" + strings.Repeat("r", 32) + long + "x", api.ErrForm},
		{"\x06" + strings.Repeat("r", 32), api.ErrShort},
	} {
		wantOf(t, c.s, api.Op{}, c.want)
		if o, e := ofTold(c.s); e != c.want || !sameTold(o, api.Op{}) {
			t.Errorf("the test's own: %.40x: %d; want %d", c.s, e, c.want)
		}
	}
}

func TestNoKindAheadOfAll(t *testing.T) { // P7.2: of any text but the empty one
	wantOf(t, "", api.Op{}, api.ErrShort)
	for b := range 256 {
		if b >= 1 && b <= 7 {
			continue
		}
		for _, rest := range []string{"", "\x00", "\x80\x00\x00\x01", "\xff\xff", strings.Repeat("\xff", 1000)} {
			wantOf(t, string([]byte{byte(b)})+rest, api.Op{}, api.ErrKind)
		}
		for _, k := range kinds {
			wantOf(t, string([]byte{byte(b)})+putTold(full(k))[1:], api.Op{}, api.ErrKind)
		}
	}
}

func TestCutsAndRests(t *testing.T) { // P7.2: each text cut at each place, and with something left
	for _, o := range all() {
		if checkTold(o) != api.OK {
			continue
		}
		s := putTold(o)
		for n := range len(s) {
			if x, e := op.Of(s[:n]); e != api.ErrShort || !sameTold(x, api.Op{}) {
				t.Errorf("Of(%.60x): %s; %d; want ErrShort", s[:n], brief(x), e)
			}
		}
		for _, rest := range []string{"\x00", "x", s, strings.Repeat("\xff", 40)} {
			if x, e := op.Of(s + rest); e != api.ErrForm || !sameTold(x, api.Op{}) {
				t.Errorf("Of(%.60x): %s; %d; want ErrForm", s+rest, brief(x), e)
			}
		}
	}
}

func TestAllShortTexts(t *testing.T) { // P7.2: of up to three bytes
	told := func(s string) {
		o, e := ofTold(s)
		wantOf(t, s, o, e)
	}
	for a := range 256 {
		told(string([]byte{byte(a)}))
		for b := range 256 {
			told(string([]byte{byte(a), byte(b)}))
			if a > 8 {
				continue
			}
			for c := range 256 {
				told(string([]byte{byte(a), byte(b), byte(c)}))
			}
		}
	}
}

func TestTurnedBytes(t *testing.T) { // P7.2, P7.3: each byte at each place of each kind's text
	for _, k := range kinds {
		for _, o := range []api.Op{{K: k}, full(k)} {
			s := putTold(o)
			for at := range len(s) {
				for b := range 256 {
					l := []byte(s)
					l[at] = byte(b)
					o, e := ofTold(string(l))
					wantOf(t, string(l), o, e)
				}
			}
		}
	}
}

func TestTextsOfChance(t *testing.T) { // P7.2, P7.3: what may be put, with bytes turned, put in and taken away; the same in each run
	c := rand.New(rand.NewSource(7))
	ops := all()
	read := 0
	for range 100000 {
		l := []byte(putTold(ops[c.Intn(len(ops))]))
		for range c.Intn(3) {
			switch at := c.Intn(min(len(l), 24)); c.Intn(3) {
			case 0:
				l[at] = byte(c.Intn(20))
			case 1:
				l = slices.Insert(l, at, byte(c.Intn(256)))
			case 2:
				l = slices.Delete(l, at, at+1)
			}
			if len(l) == 0 {
				break
			}
		}
		o, e := ofTold(string(l))
		wantOf(t, string(l), o, e)
		if e == api.OK {
			read++
		}
	}
	if read < 1000 {
		t.Errorf("the test's own: %d texts were read", read)
	}
}

func TestNoTwoOfOneText(t *testing.T) { // P7.3
	seen := map[string]api.Op{}
	for _, o := range all() {
		s, e := op.Put(o)
		if e != api.OK {
			continue
		}
		if other, there := seen[s]; there && !sameTold(other, o) {
			t.Errorf("%s, and %s: both are %x", brief(o), brief(other), s)
		}
		seen[s] = o
	}
}

func TestBelongs(t *testing.T) { // P7.2
	for _, k := range kinds {
		if got := op.Belongs(k); got != belongs[k] {
			t.Errorf("Belongs(%d): %d; want %d", k, got, belongs[k])
		}
	}
	for _, k := range noKinds {
		if got := op.Belongs(k); got != api.TNone {
			t.Errorf("Belongs(%d): %d; want none", k, got)
		}
	}
	for k := -1000; k <= 1000; k++ {
		if got := op.Belongs(k); got != belongs[k] {
			t.Errorf("Belongs(%d): %d; want %d", k, got, belongs[k])
		}
	}
}

// odd are operations that differ in one thing each; most can't be.
func odd() []api.Op {
	l := []api.Op{
		{}, {K: -1}, {K: 1 << 32}, {K: 99}, {N: 1}, {N: -1}, {N: 1 << 32}, {N: math.MinInt}, {Key: "a"}, {Key: "b"}, {Key: "a\x00"}, {Key: "\x00"}, {Key: strings.Repeat("k", 300)}, {Val: "a"}, {Val: "b"}, {Val: "\x00"}, {Val: "A"},
		{Ref: api.Id{31: 1}}, {Ref: api.Id{0: 1}}, {Ref: api.Id{0: 1, 31: 1}}, {Refs: []api.Id{{}}}, {Refs: []api.Id{{}, {}}}, {Refs: []api.Id{{1}, {2}}}, {Refs: []api.Id{{2}, {1}}}, {Refs: []api.Id{{1}}}, {Refs: []api.Id{{2}}}, {Refs: []api.Id{{1}, {31: 2}}}, {Refs: ids(9)}, {Refs: ids(300)},
		{K: 9, N: 1, Key: "k", Val: "v", Ref: id(1, 1), Refs: ids(2)}, {K: 9, N: 1, Key: "v", Val: "k", Ref: id(1, 1), Refs: ids(2)}, {K: 1, N: 9, Key: "k", Val: "v", Ref: id(1, 1), Refs: ids(2)},
	}
	for _, k := range kinds {
		l = append(l, api.Op{K: k}, full(k))
	}
	return l
}

func TestSame(t *testing.T) { // P7.2
	l, again := odd(), odd()
	for i, a := range l {
		for j, b := range again {
			if got := op.Same(a, b); got != (i == j) {
				t.Errorf("Same(%s; %s): %t", brief(a), brief(b), got)
			}
		}
	}
	for _, a := range l {
		b := a
		if len(a.Refs) == 0 {
			b.Refs = []api.Id{}
		} else {
			b.Refs = append(make([]api.Id, 0, 400), a.Refs...)
		}
		if !op.Same(a, b) || !op.Same(b, a) || !op.Same(b, b) {
			t.Errorf("Same(%s, and a copy of it): false", brief(a))
		}
	}
}

func TestWhatIsHandedInStays(t *testing.T) { // P4: with what stands behind the list's end
	for _, k := range []int{api.ORemove, api.OPut, api.OAdd, 0} {
		for _, list := range lists() {
			room := append(slices.Clone(list), id(77, 77), id(78, 78))
			o := api.Op{K: k, Key: "", Val: "v", Refs: room[:len(list)]}
			op.Check(o)
			op.Put(o)
			op.Same(o, o)
			if !slices.Equal(room, append(slices.Clone(list), id(77, 77), id(78, 78))) {
				t.Errorf("kind %d, %d Refs: they were changed", k, len(list))
			}
		}
	}
}

func TestAnswersAreNew(t *testing.T) { // P4: two of one text share nothing
	s := putTold(full(api.OPut))
	a, _ := op.Of(s)
	b, _ := op.Of(s)
	a.Refs[0], a.Refs[2] = id(9, 9), id(9, 9)
	_ = append(a.Refs[:1], id(9, 9))
	if c, _ := op.Of(s); !op.Same(b, full(api.OPut)) || !op.Same(c, full(api.OPut)) {
		t.Errorf("Of(%x): it is changed behind: %s", s, brief(b))
	}
}

func TestAgain(t *testing.T) { // P5: a call hangs on its arguments alone
	l := all()
	for i, o := range l {
		s, e := op.Put(o)
		op.Of("\x01")
		op.Put(l[(i*7+3)%len(l)])
		if again, e2 := op.Put(o); again != s || e2 != e {
			t.Errorf("Put(%s): %x, %d; then %x, %d", brief(o), s, e, again, e2)
		}
	}
}

func TestLongOnesEnd(t *testing.T) { // P1
	long := strings.Repeat("\x07", 1<<26)
	many := make([]api.Id, 1<<20)
	for _, k := range append(kinds, noKinds...) {
		for _, o := range []api.Op{{K: k, Key: long}, {K: k, Val: long}, {K: k, Refs: many}, {K: k, N: math.MinInt, Key: long, Val: long, Ref: id(1, 1), Refs: many}} {
			wantOp(t, o, checkTold(o))
			if !op.Same(o, o) {
				t.Errorf("Same of %s and itself", brief(o))
			}
		}
	}
	wantOf(t, long, api.Op{}, api.ErrForm)
	wantOf(t, "\x00"+long, api.Op{}, api.ErrKind)
	wantOf(t, "\x02"+long, api.Op{}, api.ErrForm)
	wantOf(t, "\x05"+long, api.Op{}, api.ErrForm)
}
