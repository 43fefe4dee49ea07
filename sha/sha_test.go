package sha_test

import (
	"crypto/sha256"
	"encoding/hex"
	"strings"
	"testing"

	"petrel/api"
	"petrel/sha"
)

// spaced is an id as the chapter tells one: eight words, base 16.
func spaced(t *testing.T, s string) api.Id {
	t.Helper()
	b, err := hex.DecodeString(strings.ReplaceAll(s, " ", ""))
	if err != nil || len(b) != 32 {
		t.Fatalf("no id: %q", s)
	}
	return api.Id(b)
}

// ruled is what the library says of s.
func ruled(s string) api.Id {
	return sha256.Sum256([]byte(s))
}

// ofAllBytes is a text of n bytes, in which each byte comes in turn.
func ofAllBytes(n int) string {
	b := make([]byte, n)
	for i := range b {
		b[i] = byte(i*7 + i>>8)
	}
	return string(b)
}

func wantHash(t *testing.T, name string, h *sha.Hash, s string) {
	t.Helper()
	for range 2 { // to look changes nothing
		if h.Sum() != ruled(s) || h.Len() != len(s) {
			t.Errorf("%s: Sum %x, Len %d; want %x, %d", name, h.Sum(), h.Len(), ruled(s), len(s))
		}
	}
}

func TestSumOfKnownTexts(t *testing.T) { // P2.1
	for _, x := range []struct{ s, sum string }{
		{"", "e3b0c442 98fc1c14 9afbf4c8 996fb924 27ae41e4 649b934c a495991b 7852b855"},
		{"abc", "ba7816bf 8f01cfea 414140de 5dae2223 b00361a3 96177a9c b410ff61 f20015ad"},
		{"abcdbcdecdefdefgefghfghighijhijkijkljklmklmnlmnomnopnopq", "248d6a61 d20638b8 e5c02693 0c3e6039 a33ce459 64ff2167 f6ecedd4 19db06c1"},
		{"abcdefghbcdefghicdefghijdefghijkefghijklfghijklmghijklmnhijklmnoijklmnopjklmnopqklmnopqrlmnopqrsmnopqrstnopqrstu", "cf5b16a7 78af8380 036ce59e 7b049237 0b249b11 e8f07a51 afac4503 7afee9d1"},
		{strings.Repeat("a", 1000000), "cdc76e5c 9914fb92 81a1c7e2 84d73e67 f1809a48 a497200e 046d39cc c7112cd0"},
		{"\xbd", "68325720 aabd7c82 f30f554b 313d0570 c95accbb 7dc4b5aa e11204c0 8ffe732b"},
		{"\x00", "6e340b9c ffb37a98 9ca544e6 bb780a2c 78901d3f b3373876 8511a306 17afa01d"},
	} {
		if id := sha.Sum(x.s); id != spaced(t, x.sum) {
			t.Errorf("Sum of %.20q (%d bytes): %x; want %s", x.s, len(x.s), id, x.sum)
		}
	}
}

func TestSumOfAllLengths(t *testing.T) { // P2.1: with the ends of blocks, at 55 and 56, 63 and 64, among them
	for n := range 5*64 + 2 {
		for _, s := range []string{ofAllBytes(n), strings.Repeat("\x00", n), strings.Repeat("\x80", n), strings.Repeat("\xff", n)} {
			if id := sha.Sum(s); id != ruled(s) {
				t.Errorf("Sum of %d bytes %.4q: %x; want %x", n, s, id, ruled(s))
			}
		}
	}
}

func TestSumOfLongTexts(t *testing.T) { // P2.1: lengths of which 8 times takes more bytes
	for _, n := range []int{1 << 13, 1<<13 + 55, 1<<16 - 1, 1 << 16, 1 << 21, 1<<21 + 56} {
		if s := ofAllBytes(n); sha.Sum(s) != ruled(s) {
			t.Errorf("Sum of %d bytes: another one", n)
		}
	}
}

func TestLengthHasMoreThanFourBytes(t *testing.T) { // P2.1, P2.2: 8 times 2^29 is above 32 bits
	if testing.Short() {
		t.Skip("of half a GiB")
	}
	piece := ofAllBytes(1 << 20)
	h, rule := sha.New(), sha256.New()
	for range 1 << 9 {
		h.Write(piece)
		rule.Write([]byte(piece))
	}
	if id := h.Sum(); id != api.Id(rule.Sum(nil)) || h.Len() != 1<<29 {
		t.Errorf("Sum %x, Len %d; want %x, %d", id, h.Len(), rule.Sum(nil), 1<<29)
	}
}

func TestUnlikeTextsHaveUnlikeSums(t *testing.T) { // P2.1: what the ending has is no part of the text
	seen := map[api.Id]string{}
	for _, s := range []string{"", "\x00", "\x80", "\x80\x00", "a", "a\x00", "a\x80", "\x00a", strings.Repeat("\x00", 64), "\x80" + strings.Repeat("\x00", 63)} {
		id := sha.Sum(s)
		if other, ok := seen[id]; ok {
			t.Errorf("%q and %q have one sum", other, s)
		}
		seen[id] = s
	}
}

func TestNewHasNothing(t *testing.T) { // P2.2
	wantHash(t, "New", sha.New(), "")
	if sha.New() == sha.New() {
		t.Errorf("New: the same Hash twice")
	}
}

func TestWriteGoesOn(t *testing.T) { // P2.2
	h, all := sha.New(), ""
	for _, n := range []int{1, 0, 54, 1, 7, 1, 0, 64, 63, 65, 200, 3} {
		s := ofAllBytes(n)
		all += s
		if m := h.Write(s); m != n {
			t.Errorf("Write of %d bytes: %d", n, m)
		}
		wantHash(t, "written on", h, all)
	}
}

func TestHashesAreTheirOwn(t *testing.T) { // P5
	v, w := sha.New(), sha.New()
	v.Write("a")
	w.Write(ofAllBytes(100))
	v.Write("b")
	wantHash(t, "v", v, "ab")
	wantHash(t, "w", w, ofAllBytes(100))
	wantHash(t, "another one", sha.New(), "")
	if sha.Sum("ab") != ruled("ab") {
		t.Errorf("Sum behind a Hash: another one")
	}
}

func TestNoHash(t *testing.T) { // P2.3
	var none *sha.Hash
	for name, h := range map[string]*sha.Hash{"nil": none, "zero": {}, "new": new(sha.Hash)} {
		for _, s := range []string{"", "abc", ofAllBytes(64), ofAllBytes(200)} {
			if n := h.Write(s); n != 0 {
				t.Errorf("%s: Write of %d bytes: %d", name, len(s), n)
			}
			wantHash(t, name, h, "")
		}
	}
}

func TestPiecesPlayNoPart(t *testing.T) { // P2.4: two cuts, wherever they may be
	s := ofAllBytes(150)
	want := sha.Sum(s)
	for i := range len(s) + 1 {
		for j := i; j <= len(s); j++ {
			h := sha.New()
			if h.Write(s[:i])+h.Write(s[i:j])+h.Write(s[j:]) != len(s) || h.Sum() != want || h.Len() != len(s) {
				t.Fatalf("cut at %d and %d: another sum", i, j)
			}
		}
	}
}

func TestPiecesOfOneSizePlayNoPart(t *testing.T) { // P2.4: Sum told between the pieces, or not
	s := ofAllBytes(1000)
	want := sha.Sum(s)
	for size := 1; size <= 130; size++ {
		h := sha.New()
		for at := 0; at < len(s); at += size {
			h.Write(s[at:min(at+size, len(s))])
			if size%2 == 0 {
				h.Sum()
			}
		}
		if h.Sum() != want || h.Len() != len(s) {
			t.Errorf("in pieces of %d: another sum", size)
		}
	}
}
