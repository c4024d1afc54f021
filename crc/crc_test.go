package crc_test

import (
	"hash/crc32"
	"math"
	"strings"
	"testing"

	"escheat/crc"
)

const greatest = 1 << 30 // bytes that the second text of Join may have

// noise is n bytes that follow no simple rule, others for another seed.
func noise(n int, seed uint32) string {
	b := make([]byte, n)
	for i := range b {
		seed = seed*1664525 + 1013904223
		b[i] = byte(seed >> 24)
	}
	return string(b)
}

// sums are numbers that a sum may be, its single bits among them.
func sums() []uint32 {
	l := []uint32{0, 2, 3, 0xcbf43926, 0xedb88320, 0x04c11db7, 0x12345678, 0x80000001, math.MaxUint32 - 1, math.MaxUint32}
	for i := range 32 {
		l = append(l, 1<<i, ^(uint32(1) << i))
	}
	return l
}

// texts are texts of any bytes, the empty one and long ones among them.
func texts() []string {
	l := []string{"", "\x00", "\xff", "a", "abc", "123456789", "\x00\x00\x00\x00", "\xff\xff\xff\xff", "ä€\xf0\x9f", strings.Repeat("\x00", 300)}
	for _, n := range []int{2, 3, 4, 5, 7, 8, 9, 31, 32, 33, 255, 256, 257, 4095, 65537} {
		l = append(l, noise(n, uint32(n)))
	}
	return l
}

// divided is the sum of s by the words alone: its bits as a polynomial over the bits 0 and 1, divided the long way.
func divided(s string) uint32 {
	var l []byte
	for _, c := range []byte(s) {
		for i := range 8 {
			l = append(l, c>>i&1)
		}
	}
	n := len(l)
	l = append(l, make([]byte, 32)...)
	for i := range 32 {
		l[i] ^= 1
	}
	for i := range n {
		if l[i] == 0 {
			continue
		}
		l[i] = 0
		for k := range 32 {
			l[i+1+k] ^= byte(uint32(0xedb88320) >> k & 1)
		}
	}
	var sum uint32
	for k, bit := range l[n:] {
		sum |= uint32(bit^1) << k
	}
	return sum
}

// P2.1
func TestSum(t *testing.T) {
	for _, x := range []struct {
		s    string
		want uint32
	}{
		{"", 0},
		{"123456789", 0xcbf43926},
		{"a", 0xe8b7be43},
		{"abc", 0x352441c2},
		{"\x00", 0xd202ef8d},
		{"\xff", 0xff000000},
		{"\x00\x00\x00\x00", 0x2144df1c},
		{"\xff\xff\xff\xff", 0xffffffff},
		{"The quick brown fox jumps over the lazy dog", 0x414fa339},
		{strings.Repeat("\x00", 32), 0x190a55ad},
		{strings.Repeat("\xff", 32), 0xff6cab0b},
	} {
		if got := crc.Sum(x.s); got != x.want {
			t.Errorf("Sum(%q) = %08x, not %08x", x.s, got, x.want)
		}
	}
}

// P2.1
func TestSumOfAnyText(t *testing.T) {
	l := texts()
	for a := range 256 {
		l = append(l, string([]byte{byte(a)}), string([]byte{0, byte(a)}), string([]byte{byte(a), 0xa5}))
	}
	for n := range 300 {
		l = append(l, noise(n, 7))
	}
	for _, s := range l {
		got := crc.Sum(s)
		if want := crc32.ChecksumIEEE([]byte(s)); got != want {
			t.Errorf("Sum of %d bytes, %.9q .., = %08x, not %08x", len(s), s, got, want)
		}
		if want := divided(s); got != want {
			t.Errorf("Sum of %d bytes, %.9q .., = %08x, not %08x, as divided", len(s), s, got, want)
		}
	}
}

// P2.1
func TestMore(t *testing.T) {
	for _, x := range []struct {
		sum  uint32
		s    string
		want uint32
	}{
		{0, "", 0},
		{0, "123456789", 0xcbf43926},
		{0xcbf43926, "", 0xcbf43926},
		{0xe8b7be43, "bc", 0x352441c2},
		{0xd202ef8d, "\x00\x00\x00", 0x2144df1c},
		{math.MaxUint32, "", math.MaxUint32},
		{math.MaxUint32, "\x00", math.MaxUint32},
		{math.MaxUint32, "\x01", 0x88f8cf69},
	} {
		if got := crc.More(x.sum, x.s); got != x.want {
			t.Errorf("More(%08x, %q) = %08x, not %08x", x.sum, x.s, got, x.want)
		}
	}
}

// P2.1
func TestMoreOfAnySum(t *testing.T) {
	for _, sum := range sums() {
		for _, s := range texts() {
			want := crc32.Update(sum, crc32.IEEETable, []byte(s))
			if got := crc.More(sum, s); got != want {
				t.Errorf("More(%08x, %d bytes, %.9q ..) = %08x, not %08x", sum, len(s), s, got, want)
			}
		}
	}
}

// P2.1
func TestJoin(t *testing.T) {
	for _, x := range []struct {
		a, b uint32
		n    int
		want uint32
	}{
		{0, 0, 0, 0},
		{0xcbf43926, 0, 0, 0xcbf43926},
		{0, 0xcbf43926, 9, 0xcbf43926},
		{0, 0xcbf43926, greatest, 0xcbf43926},
		{0, 0, greatest, 0},
		{crc.Sum("12345"), crc.Sum("6789"), 4, 0xcbf43926},
		{crc.Sum("1"), crc.Sum("23456789"), 8, 0xcbf43926},
		{0xd202ef8d, crc.Sum("\x00\x00\x00"), 3, 0x2144df1c},
		{1 << 31, 0, 1, 1 << 23},
		{1 << 31, 0, 3, 1 << 7},
		{1 << 31, 0, 4, 0xedb88320},
		{1, 0, 1, 0x77073096},
		// A length that is not the texts' own tells another sum.
		{crc.Sum("12345"), crc.Sum("6789"), 0, crc.Sum("12345") ^ crc.Sum("6789")},
	} {
		if got := crc.Join(x.a, x.b, x.n); got != x.want {
			t.Errorf("Join(%08x, %08x, %d) = %08x, not %08x", x.a, x.b, x.n, got, x.want)
		}
	}
}

// P2.1
func TestJoinOfALengthThatIsNone(t *testing.T) {
	for _, n := range []int{-1, -2, -8, -greatest, math.MinInt32, math.MinInt, math.MinInt + 1, greatest + 1, greatest + 2, 2*greatest - 1, math.MaxInt32, math.MaxInt - 1, math.MaxInt} {
		for _, a := range sums() {
			for _, b := range []uint32{0, 1, 6, 0xcbf43926, math.MaxUint32} {
				if got := crc.Join(a, b, n); got != 0 {
					t.Errorf("Join(%08x, %08x, %d) = %08x, not 0", a, b, n, got)
				}
			}
		}
	}
}

// zerosBehind is what the sum a is behind n bytes 0, and what the sum of these alone is.
func zerosBehind(a uint32, n int) (joined, alone uint32) {
	block := make([]byte, 1<<20)
	joined = a
	for n > 0 {
		k := min(n, len(block))
		joined = crc32.Update(joined, crc32.IEEETable, block[:k])
		alone = crc32.Update(alone, crc32.IEEETable, block[:k])
		n -= k
	}
	return joined, alone
}

// P2.1
func TestJoinOfTheGreatestLengths(t *testing.T) {
	for _, n := range []int{1<<29 + 1, greatest - 1, greatest} {
		const a = 0xcbf43926
		want, b := zerosBehind(a, n)
		if got := crc.Join(a, b, n); got != want || got == 0 {
			t.Errorf("Join(%08x, %08x, %d) = %08x, not %08x", uint32(a), b, n, got, want)
		}
	}
}

// lengths are lengths around the places where another bit of the length is set.
func lengths() []int {
	l := []int{0, 3, 5, 6, 10, 100, 12345, 70000}
	for i := range 17 {
		l = append(l, 1<<i-1, 1<<i, 1<<i+1)
	}
	return l
}

// P2.1
func TestJoinOfAnySums(t *testing.T) {
	for _, n := range lengths() {
		for _, a := range sums() {
			joined, alone := zerosBehind(a, n)
			if got := crc.Join(a, alone, n); got != joined {
				t.Errorf("Join(%08x, %08x, %d) = %08x, not %08x", a, alone, n, got, joined)
			}
		}
	}
}

// P2.1: of up to 3 bytes most sums are no text's; of 0 bytes all but 0.
func TestJoinOfASumThatNoTextHas(t *testing.T) {
	for _, n := range []int{0, 1, 2, 3, 4, 5, 100, greatest - 1, greatest} {
		for _, a := range []uint32{0, 1, 5, 0xcbf43926, 0x80000000, math.MaxUint32} {
			ground := crc.Join(a, 0, n)
			for _, b := range sums() {
				if got := crc.Join(a, b, n); got != ground^b {
					t.Errorf("Join(%08x, %08x, %d) = %08x, not %08x", a, b, n, got, ground^b)
				}
			}
		}
	}
	for _, a := range sums() {
		for _, b := range sums() {
			if got := crc.Join(a, b, 0); got != a^b {
				t.Errorf("Join(%08x, %08x, 0) = %08x, not %08x", a, b, got, a^b)
			}
		}
	}
}

// P2.2
func TestCutAnywhereAndJoined(t *testing.T) {
	for _, s := range texts() {
		want := crc32.ChecksumIEEE([]byte(s))
		for k := 0; k <= len(s); k += 1 + len(s)/200 {
			x, y := s[:k], s[k:]
			if got := crc.More(crc.Sum(x), y); got != want {
				t.Errorf("More of %d and %d bytes = %08x, not %08x", len(x), len(y), got, want)
			}
			if got := crc.Join(crc.Sum(x), crc.Sum(y), len(y)); got != want {
				t.Errorf("Join of %d and %d bytes = %08x, not %08x", len(x), len(y), got, want)
			}
		}
	}
}

// P2.2
func TestCutInManyAndJoined(t *testing.T) {
	s := noise(5000, 3)
	want := crc.Sum(s)
	for _, size := range []int{1, 2, 3, 7, 64, 999, 5000, 6000} {
		var more, ahead uint32 // from the first piece on
		for at := 0; at < len(s); at += size {
			piece := s[at:min(at+size, len(s))]
			more = crc.More(more, piece)
			ahead = crc.Join(ahead, crc.Sum(piece), len(piece))
		}
		var behind uint32 // from the last piece on
		for end := len(s); end > 0; end -= size {
			piece := s[max(end-size, 0):end]
			behind = crc.Join(crc.Sum(piece), behind, len(s)-end)
		}
		if more != want || ahead != want || behind != want {
			t.Errorf("pieces of %d bytes: More %08x, Join %08x and %08x, not %08x", size, more, ahead, behind, want)
		}
	}
}

// P2.2
func TestEmptyTextsJoined(t *testing.T) {
	for _, s := range texts() {
		want := crc.Sum(s)
		if got := crc.Join(want, crc.Sum(""), 0); got != want {
			t.Errorf("none behind %d bytes: %08x, not %08x", len(s), got, want)
		}
		if got := crc.Join(crc.Sum(""), want, len(s)); got != want {
			t.Errorf("none ahead of %d bytes: %08x, not %08x", len(s), got, want)
		}
	}
}

// flipped is s with the bits of by turned over from its bit at on, of each byte the lowest first; false, where they are not all in s.
func flipped(s string, at int, by uint32) (string, bool) {
	b := []byte(s)
	for i := range 32 {
		if by>>i&1 == 0 {
			continue
		}
		if at+i >= 8*len(b) {
			return "", false
		}
		b[(at+i)/8] ^= 1 << ((at + i) % 8)
	}
	return string(b), true
}

// differences are up to 32 bits side by side that differ: one, two, all of them, and any.
func differences() []uint32 {
	l := []uint32{0xedb88320, 0xdb710641, 0x04c11db7, 0x82608edb, 0xaaaaaaaa, 0x55555555}
	for i := range 32 {
		l = append(l, 1<<i|1, 1<<i, math.MaxUint32>>i)
	}
	for by := uint32(1); by < 64; by++ {
		l = append(l, by)
	}
	by := uint32(1)
	for range 200 {
		by = by*1664525 + 1013904223
		l = append(l, by)
	}
	return l
}

// P2.3
func TestBitsSideBySideAreSeen(t *testing.T) {
	for _, s := range []string{"\x00", "a", "\xff\xff", "123", "\x00\x00\x00\x00", "1234", "12345", "123456789", strings.Repeat("\x00", 20), strings.Repeat("\xff", 33), noise(40, 9)} {
		sum := crc.Sum(s)
		for at := range 8 * len(s) {
			for _, by := range differences() {
				other, ok := flipped(s, at, by)
				if ok && crc.Sum(other) == sum {
					t.Errorf("%q and %q, other by %08x at bit %d, have both the sum %08x", s, other, by, at, sum)
				}
			}
		}
	}
}

// P2.3
func TestBitsInLongTextsAreSeen(t *testing.T) {
	s := noise(3000, 5)
	sum := crc.Sum(s)
	for _, at := range []int{0, 1, 7, 8, 31, 32, 4095, 12001, 23968, 23999} {
		for _, by := range differences() {
			other, ok := flipped(s, at, by)
			if ok && crc.Sum(other) == sum {
				t.Errorf("other by %08x at bit %d: both have the sum %08x", by, at, sum)
			}
		}
	}
}

// P2.3: where all of two texts is side by side, no two of a length have one sum.
func TestShortTextsHaveEachItsSum(t *testing.T) {
	seen := map[uint32]string{}
	for a := range 256 {
		one := string([]byte{byte(a)})
		if other, ok := seen[crc.Sum(one)]; ok {
			t.Errorf("%q and %q have one sum", one, other)
		}
		seen[crc.Sum(one)] = one
	}
	clear(seen)
	for a := range 65536 {
		two := string([]byte{byte(a), byte(a >> 8)})
		if other, ok := seen[crc.Sum(two)]; ok {
			t.Errorf("%q and %q have one sum", two, other)
		}
		seen[crc.Sum(two)] = two
	}
}
