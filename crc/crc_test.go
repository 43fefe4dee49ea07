package crc_test

import (
	"hash/crc32"
	"strings"
	"testing"

	"petrel/crc"
)

// ends are words at their ends, and some between.
var ends = []uint32{0, 1, 2, 15, 16, 255, 256, 1<<31 - 1, 1 << 31, 1<<31 + 1, 1<<32 - 2, 1<<32 - 1, 0xedb88320, 0xcbf43926, 0xdebb20e3, 0x2144df1c}

// told is Add as the chapter tells it: a step for each bit.
func told(c uint32, s string) uint32 {
	word := ^c
	for _, b := range []byte(s) {
		for i := range 8 {
			odd := word&1 ^ uint32(b>>i)&1
			word >>= 1
			if odd == 1 {
				word ^= 0xedb88320
			}
		}
	}
	return ^word
}

// chance is a row of numbers that is the same in each run.
type chance uint32

func (c *chance) next() uint32 {
	*c = *c*1664525 + 1013904223
	return uint32(*c >> 16)
}

func (c *chance) word() uint32 {
	return c.next()<<16 | c.next()
}

func (c *chance) text(n int) string {
	b := make([]byte, n)
	for i := range b {
		b[i] = byte(c.next())
	}
	return string(b)
}

// turned is s, with those bits turned that bits has, its lowest one being bit number at.
func turned(s string, at int, bits uint32) string {
	b := []byte(s)
	for i := range 32 {
		if bits>>i&1 == 1 {
			b[(at+i)/8] ^= 1 << ((at + i) % 8)
		}
	}
	return string(b)
}

func TestSumOfKnownTexts(t *testing.T) { // P3.1
	for _, x := range []struct {
		s string
		c uint32
	}{
		{"", 0}, {"123456789", 0xcbf43926},
		{"a", 0xe8b7be43}, {"abc", 0x352441c2}, {"The quick brown fox jumps over the lazy dog", 0x414fa339},
		{"\x00", 0xd202ef8d}, {"\xff", 0xff000000}, {"\x00\x00\x00\x00", 0x2144df1c}, {"\xff\xff\xff\xff", 0xffffffff},
		{strings.Repeat("\x00", 32), 0x190a55ad}, {strings.Repeat("\xff", 32), 0xff6cab0b},
	} {
		if c := crc.Sum(x.s); c != x.c {
			t.Errorf("Sum(%.20q): %08x; want %08x", x.s, c, x.c)
		}
	}
}

func TestAddOfOneByte(t *testing.T) { // P3.1: each half byte at both places
	for _, c := range ends {
		for b := range 256 {
			s := string([]byte{byte(b)})
			if x := crc.Add(c, s); x != told(c, s) {
				t.Errorf("Add(%08x, %q): %08x; want %08x", c, s, x, told(c, s))
			}
		}
	}
}

func TestAddOfAllLengths(t *testing.T) { // P3.1
	rows := chance(1)
	for n := range 300 {
		s := rows.text(n)
		for _, c := range append([]uint32{rows.word(), rows.word()}, ends...) {
			x := crc.Add(c, s)
			if x != told(c, s) || x != crc32.Update(c, crc32.IEEETable, []byte(s)) {
				t.Fatalf("Add(%08x, %d bytes): %08x; want %08x", c, n, x, told(c, s))
			}
		}
		if x := crc.Sum(s); x != told(0, s) || x != crc.Add(0, s) {
			t.Fatalf("Sum of %d bytes: %08x; want %08x", n, x, told(0, s))
		}
	}
}

func TestAddOfNothing(t *testing.T) { // P3.1: no step
	for _, c := range ends {
		if x := crc.Add(c, ""); x != c {
			t.Errorf("Add(%08x) of nothing: %08x", c, x)
		}
	}
}

func TestSumOfLongTexts(t *testing.T) { // P3.1: as long as a record may be, and longer
	rows := chance(2)
	for _, n := range []int{1<<16 - 1, 1 << 16, 1 << 20, 1<<20 + 1} {
		s := rows.text(n)
		if x := crc.Sum(s); x != told(0, s) {
			t.Errorf("Sum of %d bytes: %08x; want %08x", n, x, told(0, s))
		}
	}
}

func TestBytesThatAreNoRunes(t *testing.T) { // P3.1, P1: bytes count, not runes
	for _, s := range []string{"\xff", "\xef\xbf\xbd", "\xed\xa0\x80", "\xc0\x80", "a\x80b", "\xf0\x9f\x90\xa6", "\x00", "\n"} {
		if x := crc.Sum(s); x != told(0, s) {
			t.Errorf("Sum(%q): %08x; want %08x", s, x, told(0, s))
		}
	}
}

func TestFits(t *testing.T) { // P3.1
	rows := chance(3)
	for _, s := range []string{"", "\x00", "a", "123456789", rows.text(100), rows.text(1000)} {
		c := told(0, s)
		if !crc.Fits(s, c) {
			t.Errorf("Fits(%.20q, %08x): false", s, c)
		}
		for i := range 32 {
			if crc.Fits(s, c^1<<i) {
				t.Errorf("Fits(%.20q, %08x): true, with bit %d turned", s, c^1<<i, i)
			}
		}
		for _, x := range append([]uint32{^c, c + 1, c - 1}, ends...) {
			if crc.Fits(s, x) != (x == c) {
				t.Errorf("Fits(%.20q, %08x): %t; its Sum is %08x", s, x, x != c, c)
			}
		}
	}
}

func TestAddGoesOn(t *testing.T) { // P3.2: wherever the cuts may be
	rows := chance(4)
	s := rows.text(120)
	for i := range len(s) + 1 {
		first := crc.Sum(s[:i])
		if crc.Add(first, s[i:]) != crc.Sum(s) {
			t.Fatalf("cut at %d: not the Sum of both", i)
		}
		for j := i; j <= len(s); j++ {
			if crc.Add(crc.Add(first, s[i:j]), s[j:]) != crc.Sum(s) {
				t.Fatalf("cut at %d and %d: not the Sum of all", i, j)
			}
		}
	}
}

func TestAddGoesOnFromAnyWord(t *testing.T) { // P3.2
	rows := chance(5)
	for range 500 {
		c, s, z := rows.word(), rows.text(int(rows.next()%40)), rows.text(int(rows.next()%40))
		if crc.Add(crc.Add(c, s), z) != crc.Add(c, s+z) {
			t.Errorf("Add(%08x, %q), and %q behind it: not as both at once", c, s, z)
		}
	}
}

func TestFewTurnedBitsAreTold(t *testing.T) { // P3.2: all ways to turn 1 to 12 bits in a row, at all places
	rows := chance(6)
	s := rows.text(8)
	c := crc.Sum(s)
	for at := range 8*len(s) - 11 {
		for bits := uint32(1); bits < 1<<12; bits++ {
			if z := turned(s, at, bits); crc.Sum(z) == c || crc.Fits(z, c) {
				t.Fatalf("bits %b turned from %d on: the same Sum", bits, at)
			}
		}
	}
}

func TestTurnedBitsAreTold(t *testing.T) { // P3.2: up to 32 in a row, in texts of other lengths
	rows := chance(7)
	for _, n := range []int{4, 5, 9, 64, 500} {
		for range 2000 {
			s := rows.text(n)
			at, bits := int(rows.word()%uint32(8*n-31)), rows.word()>>(rows.next()%32)
			if bits != 0 && crc.Sum(turned(s, at, bits)) == crc.Sum(s) {
				t.Fatalf("of %d bytes, bits %b turned from %d on: the same Sum", n, bits, at)
			}
		}
	}
}

// TestTurnedBitsAreToldWhicheverTheyAre: the change of a Sum is the changes of its single turned bits, put together (^); so if no choice among 32 of these comes to nothing, each of the 2^32 - 1 ways to turn them is told.
func TestTurnedBitsAreToldWhicheverTheyAre(t *testing.T) { // P3.2
	rows := chance(8)
	s := rows.text(40)
	for at := range 8*len(s) - 31 {
		var rank []uint32
		for i := range 32 {
			change := crc.Sum(turned(s, at, 1<<i)) ^ crc.Sum(s)
			for _, r := range rank {
				change = min(change, change^r)
			}
			if change == 0 {
				t.Fatalf("32 bits from %d on: bit %d is told by those ahead of it", at, i)
			}
			rank = append(rank, change)
		}
		bits, change := rows.word(), uint32(0)
		for i := range 32 {
			if bits>>i&1 == 1 {
				change ^= crc.Sum(turned(s, at, 1<<i)) ^ crc.Sum(s)
			}
		}
		if crc.Sum(turned(s, at, bits)) != crc.Sum(s)^change {
			t.Fatalf("bits %b turned from %d on: not told bit by bit", bits, at)
		}
	}
}

func TestAnswersHangOnArgumentsAlone(t *testing.T) { // P5
	for range 3 {
		if crc.Sum("123456789") != 0xcbf43926 || crc.Add(7, "a") != told(7, "a") || crc.Fits("a", 0) || crc.Sum("") != 0 {
			t.Errorf("another answer behind other calls")
		}
	}
}
