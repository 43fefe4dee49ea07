package fault_test

import (
	"errors"
	"fmt"
	"io"
	"math"
	"slices"
	"strings"
	"testing"

	"petrel/api"
	"petrel/fault"
)

// numbers are those that have names, but OK, and some that have none.
func numbers() []api.Errno {
	l := []api.Errno{18, 99, -1, math.MaxInt, math.MinInt}
	for e := api.ErrArg; e <= api.ErrDead; e++ {
		l = append(l, e)
	}
	return l
}

// ids are n of them that do not rise, and come again: a report keeps them so.
func ids(first byte, n int) []api.Id {
	l := make([]api.Id, n)
	for i := range l {
		l[i] = api.Id{first ^ byte(i)&1, 31: first}
	}
	return l
}

// thing is an error, and what must be told of it.
type thing struct {
	name string
	err  error
	code api.Errno
	ops  []string
	rep  []api.Id
	has  bool
	all  []api.Errno // its numbers
}

func nothing() thing {
	return thing{name: "nil"}
}

func number(e api.Errno) thing {
	return thing{name: fmt.Sprintf("New(%d)", int(e)), err: fault.New(e), code: e, all: []api.Errno{e}}
}

func missing(l []api.Id) thing {
	return thing{name: fmt.Sprintf("Missing(%d of %x)", len(l), l[0][31]), err: fault.Missing(l), code: api.ErrIncomplete, rep: l, has: true, all: []api.Errno{api.ErrIncomplete}}
}

func strange(name string, err error) thing {
	return thing{name: name, err: err, code: api.ErrArg, all: []api.Errno{api.ErrArg}}
}

func wrap(op string, x thing) thing {
	y := x
	y.name, y.err = fmt.Sprintf("Wrap(%q, %s)", op, x.name), fault.Wrap(op, x.err)
	if x.err != nil {
		y.ops = append([]string{op}, x.ops...)
	}
	return y
}

func join(x, y thing) thing {
	z := x
	z.name, z.err = "Join("+x.name+", "+y.name+")", fault.Join(x.err, y.err)
	if x.err == nil {
		z.code = y.code
	}
	if !x.has {
		z.rep, z.has = y.rep, y.has
	}
	z.ops = slices.Concat(x.ops, y.ops)
	z.all = slices.Concat(x.all, y.all)
	return z
}

// want looks at all that is told of x, twice: to look changes nothing.
func want(t *testing.T, x thing) {
	t.Helper()
	for range 2 {
		if c := fault.Code(x.err); c != x.code {
			t.Fatalf("Code of %s: %d; want %d", x.name, c, x.code)
		}
		if l := fault.Ops(x.err); !slices.Equal(l, x.ops) {
			t.Fatalf("Ops of %s: %q; want %q", x.name, l, x.ops)
		}
		if l, ok := fault.Report(x.err); ok != x.has || !slices.Equal(l, x.rep) {
			t.Fatalf("Report of %s: %d ids, %t; want %d, %t", x.name, len(l), ok, len(x.rep), x.has)
		}
		for _, e := range append(numbers(), api.OK) {
			is := slices.Contains(x.all, e) || e == api.OK && x.err == nil
			if fault.Is(x.err, e) != is {
				t.Fatalf("Is(%s, %d): %t", x.name, e, !is)
			}
		}
	}
}

// The strangers: each does what an error may do by which one would go wrong.

// knot wraps itself, and says that it does.
type knot struct{}

func (k knot) Error() string     { return "knot" }
func (k knot) Unwrap() error     { return k }
func (k knot) Is(err error) bool { return errors.Is(k, err) }

// tree is two of itself.
type tree struct{}

func (x tree) Error() string   { return "tree" }
func (x tree) Unwrap() []error { return []error{x, x} }

// mine panics, whatever it is asked.
type mine struct{}

func (mine) Error() string { panic("Error") }
func (mine) Unwrap() error { panic("Unwrap") }
func (mine) Is(error) bool { panic("Is") }
func (mine) As(any) bool   { panic("As") }

// liar says that it is everything.
type liar struct{}

func (liar) Error() string { return "liar" }
func (liar) Is(error) bool { return true }
func (liar) As(target any) bool {
	if n, ok := target.(*api.Errno); ok {
		*n = api.ErrFull
	}
	return true
}

// list can't be held against another one.
type list []int

func (list) Error() string { return "list" }

// linked is there, and is nil.
type linked struct{ next *linked }

func (l *linked) Error() string { return l.next.Error() }
func (l *linked) Unwrap() error { return l.next }

// round wraps whatever it is given.
type round struct{ err error }

func (r round) Error() string { return "round" }
func (r round) Unwrap() error { return r.err }

func strangers() []thing {
	var none *linked
	full, gone := fault.New(api.ErrFull), fault.Missing(ids(7, 2))
	return []thing{
		strange("errors.New", errors.New("x")), strange("io.EOF", io.EOF), strange("text of a number's", errors.New(api.ErrFull.Error())),
		strange("knot", knot{}), strange("tree", tree{}), strange("mine", mine{}), strange("liar", liar{}), strange("list", list{1}), strange("nil list", list(nil)),
		strange("nil linked", none), strange("round of nil", round{}), strange("round of a knot", round{knot{}}),
		strange("round of a number", round{full}), strange("round of a report", round{gone}), strange("round of a wrapped one", round{fault.Wrap("in", full)}),
		strange("Errorf", fmt.Errorf("x: %w", gone)), strange("Errorf of two", fmt.Errorf("%w, %w", gone, full)), strange("errors.Join", errors.Join(full, gone)),
		strange("OK", error(api.OK)), // New tells nil of it
	}
}

func TestNew(t *testing.T) { // P4.1, P4.2
	if err := fault.New(api.OK); err != nil {
		t.Errorf("New(OK): %v", err)
	}
	for _, e := range numbers() {
		if fault.New(e) == nil {
			t.Errorf("New(%d): nil", e)
		}
		want(t, number(e))
	}
}

func TestNil(t *testing.T) { // P4.1, P4.2
	want(t, nothing())
	for name, err := range map[string]error{
		"Wrap": fault.Wrap("op", nil), "Wrap of Wrap": fault.Wrap("a", fault.Wrap("b", nil)), "Wrap of New": fault.Wrap("a", fault.New(api.OK)), "Wrap of Missing": fault.Wrap("a", fault.Missing(nil)),
		"Missing of nil": fault.Missing(nil), "Missing of none": fault.Missing([]api.Id{}), "Join": fault.Join(nil, nil), "Join of Joins": fault.Join(fault.Join(nil, nil), fault.Wrap("a", nil)),
	} {
		if err != nil {
			t.Errorf("%s: there is an error", name)
		}
	}
}

func TestWrap(t *testing.T) { // P4.1, P4.2
	for _, op := range []string{"query", "", " ", "a b", "\x00\xff", "petrel", strings.Repeat("long", 1000)} {
		for _, x := range []thing{number(api.ErrFull), number(api.ErrArg), missing(ids(1, 3))} {
			want(t, wrap(op, x))
			want(t, wrap("outer", wrap(op, x)))
			want(t, wrap(op, wrap(op, wrap("", x))))
		}
	}
}

func TestMissing(t *testing.T) { // P4.1, P4.2
	for _, n := range []int{1, 2, 3, 16, 1000} {
		want(t, missing(ids(9, n)))
	}
	want(t, missing([]api.Id{{}})) // an id of noughts is one
	want(t, wrap("query", missing(ids(1, 1))))
}

func TestJoin(t *testing.T) { // P4.1, P4.2
	leaves := append(strangers(), nothing(), number(api.ErrFull), number(api.ErrQuota), missing(ids(1, 2)), missing(ids(4, 3)), wrap("a", missing(ids(6, 1))))
	for _, x := range leaves {
		for _, y := range leaves {
			want(t, join(x, y))
			want(t, wrap("w", join(wrap("x", x), wrap("y", y))))
		}
	}
}

func TestJoinOfNilIsTheOtherOne(t *testing.T) { // P4.1
	for _, x := range append(strangers(), number(api.ErrFull), missing(ids(1, 2)), wrap("a", number(api.ErrSum)), join(number(1), number(2))) {
		if _, no := x.err.(list); no {
			continue
		}
		if fault.Join(x.err, nil) != x.err || fault.Join(nil, x.err) != x.err {
			t.Errorf("Join of %s and nil: another one", x.name)
		}
	}
}

func TestStrangers(t *testing.T) { // P4.2, P1: none is asked for anything
	for _, x := range strangers() {
		want(t, x)
		want(t, wrap("a", x))
		want(t, wrap("a", wrap("b", x)))
		want(t, join(missing(ids(1, 2)), wrap("c", x)))
		want(t, join(wrap("c", x), wrap("d", missing(ids(1, 2)))))
	}
}

// TestAllOfThem: whatever three rounds of Wrap and Join make of some leaves.
func TestAllOfThem(t *testing.T) { // P4.2, P4.3
	all := []thing{nothing(), number(api.ErrFull), number(api.ErrTopic), missing(ids(1, 1)), missing(ids(2, 4)), strange("strange", errors.New("x"))}
	for i, last := range []int{6, 48, 24} {
		op := string(rune('a' + i))
		some := all[max(0, len(all)-last):]
		for _, x := range some {
			all = append(all, wrap(op, x))
			for _, y := range some {
				all = append(all, join(x, y))
			}
		}
		for _, x := range all {
			want(t, x)
		}
	}
	t.Logf("%d of them", len(all))
}

func TestNumberAndReportStay(t *testing.T) { // P4.3: however often
	for _, x := range []thing{number(api.ErrDead), missing(ids(3, 5)), join(number(api.ErrSub), missing(ids(3, 5)))} {
		code, rep, has := x.code, x.rep, x.has
		for i := range 100 {
			if i%3 == 0 {
				x = join(x, number(api.ErrFull))
			} else {
				x = wrap(strings.Repeat("o", i%5), x)
			}
			if x.code != code || x.has != has || !slices.Equal(x.rep, rep) {
				t.Fatalf("the test's own: %s", x.name)
			}
			want(t, x)
		}
	}
}

func TestDeepOnes(t *testing.T) { // P1: so many parts nested as the document has
	const deep = 1 << 16
	chain, left, right := fault.Missing(ids(1, 1)), fault.Missing(ids(1, 1)), fault.Missing(ids(1, 1))
	full := fault.New(api.ErrFull)
	for range deep {
		chain, left, right = fault.Wrap("o", chain), fault.Join(left, full), fault.Join(full, right)
	}
	if n := len(fault.Ops(chain)); n != deep || len(fault.Ops(left))+len(fault.Ops(right)) != 0 {
		t.Errorf("Ops: %d of %d", n, deep)
	}
	if fault.Code(chain) != api.ErrIncomplete || fault.Code(left) != api.ErrIncomplete || fault.Code(right) != api.ErrFull {
		t.Errorf("Code: %d %d %d", fault.Code(chain), fault.Code(left), fault.Code(right))
	}
	for i, err := range []error{chain, left, right} {
		if l, ok := fault.Report(err); !ok || len(l) != 1 || fault.Is(err, api.ErrSum) || !fault.Is(err, api.ErrIncomplete) || fault.Is(err, api.ErrFull) != (i > 0) {
			t.Errorf("deep one %d: Report %t, or Is", i, ok)
		}
	}
}

func TestReportIsItsOwn(t *testing.T) { // P4.3, P4
	l := ids(5, 4)
	err := fault.Missing(l[:3])
	both := fault.Join(fault.Wrap("a", err), fault.Missing(ids(6, 1)))
	l[0], l[2] = api.Id{1}, api.Id{2} // what was handed in is changed
	for range 2 {
		for _, x := range []error{err, both} {
			got, ok := fault.Report(x)
			if !ok || !slices.Equal(got, ids(5, 3)) {
				t.Errorf("Report: %x, %t", got, ok)
			}
			clear(got) // and what was answered
			_ = append(got[:1], api.Id{9})
		}
	}
	if l[1] != ids(5, 4)[1] || l[3] != ids(5, 4)[3] {
		t.Errorf("Missing changed what was handed in")
	}
}

func TestOpsAreTheirOwn(t *testing.T) { // P4
	err := fault.Wrap("a", fault.Wrap("b", fault.New(api.ErrFull)))
	both := fault.Join(err, err)
	for range 2 {
		l := fault.Ops(both)
		if !slices.Equal(l, []string{"a", "b", "a", "b"}) {
			t.Errorf("Ops: %q", l)
		}
		clear(l)
		_ = append(l[:0], "c")
	}
	if l := fault.Ops(err); !slices.Equal(l, []string{"a", "b"}) {
		t.Errorf("Ops of the first one: %q", l)
	}
}

func TestWrappingChangesNothing(t *testing.T) { // P4
	x, y := wrap("in", missing(ids(1, 2))), wrap("on", number(api.ErrSum))
	z := join(x, y)
	wrap("out", z)
	wrap("out", x)
	join(z, z)
	join(y, x)
	for _, w := range []thing{x, y, z} {
		want(t, w)
	}
}

func TestTheLibraryTellsThem(t *testing.T) { // Ways: errors.Is, errors.As
	err := fault.Wrap("a", fault.Join(fault.Wrap("b", fault.New(api.ErrSum)), fault.Missing(ids(1, 1))))
	if !errors.Is(err, api.ErrSum) || !errors.Is(err, api.ErrIncomplete) || errors.Is(err, api.ErrArg) || !errors.Is(fault.New(api.ErrFull), api.ErrFull) {
		t.Errorf("errors.Is: another number")
	}
	var n api.Errno
	if !errors.As(err, &n) || n != api.ErrSum {
		t.Errorf("errors.As: %d", n)
	}
	in := fault.New(api.ErrFull)
	if errors.Unwrap(fault.Wrap("a", in)) != in {
		t.Errorf("errors.Unwrap: another error")
	}
	two, ok := fault.Join(in, err).(interface{ Unwrap() []error })
	if !ok {
		t.Fatalf("Join: not two")
	}
	clear(two.Unwrap())
	if l := two.Unwrap(); len(l) != 2 || l[0] != in || l[1] != err {
		t.Errorf("Join: its two are not its own")
	}
}

func TestTheLibraryTellsStrangers(t *testing.T) { // Ways: a stranger that was wrapped is there
	for name, err := range map[string]error{"Wrap": fault.Wrap("a", io.EOF), "Join": fault.Join(fault.New(api.ErrFull), io.EOF), "both": fault.Wrap("a", fault.Join(round{io.EOF}, fault.New(api.ErrFull)))} {
		if !errors.Is(err, io.EOF) || errors.Is(err, io.ErrUnexpectedEOF) || !errors.Is(err, api.ErrArg) {
			t.Errorf("%s: errors.Is: not the stranger", name)
		}
	}
	var r round
	if err := fault.Wrap("a", fault.Wrap("b", round{io.EOF})); !errors.As(err, &r) || r.err != io.EOF {
		t.Errorf("errors.As: not the stranger")
	}
	var l list
	if errors.As(fault.Wrap("a", io.EOF), &l) {
		t.Errorf("errors.As: another stranger")
	}
	if again := errors.Unwrap(fault.Wrap("a", io.EOF)); fault.Code(again) != api.ErrArg || fault.Code(fault.Wrap("b", again)) != api.ErrArg {
		t.Errorf("a stranger that comes back: %d", fault.Code(again))
	}
}

func TestTheTextIsTheSame(t *testing.T) { // DOC.md, Words: Errors
	for _, x := range append(strangers(), number(api.ErrFull), missing(ids(1, 1))) {
		for _, y := range []thing{wrap("a", x), join(x, x)} {
			if s := y.err.Error(); s != api.ErrFull.Error() {
				t.Errorf("%s: %q", y.name, s)
			}
		}
	}
}
