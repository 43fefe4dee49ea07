package wire_test

import (
	"bytes"
	"slices"
	"strings"
	"testing"

	"petrel/api"
	"petrel/octet"
	"petrel/wire"
)

// ids are n ids, no two alike, in no order.
func ids(n int) []api.Id {
	var l []api.Id
	for i := range n {
		l = append(l, api.Id{0: byte(i * 77), 30: byte(i >> 8), 31: byte(i)})
	}
	return l
}

func TestTexts(t *testing.T) {
	for n := range 300 {
		s := strings.Repeat("\xfft", n)[:n]
		w := octet.New()
		wire.PutText(w, s)
		b, e := w.Raw("rest").Done()
		if n > 255 {
			if e != api.ErrRange || b != "" {
				t.Errorf("a text of %d bytes: %x, %d; want ErrRange", n, b, e)
			}
			continue
		}
		if want := string([]byte{byte(n)}) + s + "rest"; b != want || e != api.OK {
			t.Errorf("a text of %d bytes: %x, %d; want %x", n, b, e, want)
		}
		r := octet.Open(b)
		if got := wire.Text(r); got != s || r.Left() != 4 {
			t.Errorf("a text of %d bytes: %x; %d left", n, got, r.Left())
		}
		for cut := range n + 1 {
			r := octet.Open(b[:cut])
			if got := wire.Text(r); got != "" || r.End() != api.ErrShort {
				t.Errorf("the first %d of a text of %d bytes: %x, %d", cut, n, got, r.End())
			}
		}
	}
}

func TestId(t *testing.T) {
	var id api.Id
	for i := range id {
		id[i] = byte(i*9 + 200)
	}
	w := octet.New()
	wire.PutId(w, id)
	b, e := w.Raw("rest").Done()
	if want := string(id[:]) + "rest"; b != want || e != api.OK {
		t.Errorf("%x, %d; want %x", b, e, want)
	}
	r := octet.Open(b)
	if got := wire.Id(r); got != id || r.Left() != 4 {
		t.Errorf("%x; want %x; %d left", got, id, r.Left())
	}
	for cut := range len(id) {
		r := octet.Open(b[:cut])
		if got := wire.Id(r); got != (api.Id{}) || r.End() != api.ErrShort {
			t.Errorf("the first %d bytes: %x, %d", cut, got, r.End())
		}
	}
}

func TestIds(t *testing.T) {
	for _, n := range []int{0, 1, 2, 3, 8, 254, 255, 256, 257, 70000} {
		w := octet.New()
		wire.PutIds(w, ids(n))
		b, e := w.Raw("rest").Done()
		if n > 255 {
			if e != api.ErrRange || b != "" {
				t.Errorf("%d ids: %d bytes, %d; want ErrRange", n, len(b), e)
			}
			continue
		}
		want := []byte{byte(n)}
		for _, id := range ids(n) {
			want = append(want, id[:]...)
		}
		if b != string(want)+"rest" || e != api.OK {
			t.Errorf("%d ids: %x, %d; want %x", n, b, e, want)
		}
		r := octet.Open(b)
		if got := wire.Ids(r); !slices.Equal(got, ids(n)) || r.Left() != 4 {
			t.Errorf("%d ids: %d; %d left", n, len(got), r.Left())
		}
		for cut := range len(want) {
			r := octet.Open(b[:cut])
			if got := wire.Ids(r); len(got) != 0 || r.End() != api.ErrShort {
				t.Errorf("the first %d bytes of %d ids: %d ids, %d", cut, n, len(got), r.End())
			}
		}
	}
}

func TestFirstErrorStays(t *testing.T) { // what stands behind it is neither written nor read
	w := octet.New().Num(0, 3)
	wire.PutText(w, strings.Repeat("x", 256))
	wire.PutId(w, api.Id{1})
	wire.PutIds(w, ids(256))
	if b, e := w.Done(); b != "" || e != api.ErrArg {
		t.Errorf("%x, %d; want ErrArg", b, e)
	}
	r := octet.Open(string(bytes.Repeat([]byte{1}, 99)))
	r.Num(3)
	if s, id, l := wire.Text(r), wire.Id(r), wire.Ids(r); s != "" || id != (api.Id{}) || len(l) != 0 || r.Err() != api.ErrArg {
		t.Errorf("%x, %x, %d ids, %d; want ErrArg", s, id, len(l), r.Err())
	}
	wire.PutText(nil, "x")
	wire.PutId(nil, api.Id{})
	wire.PutIds(nil, ids(1))
	if s, id, l := wire.Text(nil), wire.Id(nil), wire.Ids(nil); s != "" || id != (api.Id{}) || len(l) != 0 {
		t.Errorf("of no Reader: %x, %x, %d ids", s, id, len(l))
	}
}
