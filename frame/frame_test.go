package frame_test

import (
	"encoding/binary"
	"hash/crc32"
	"math"
	"strings"
	"testing"
	"unsafe"

	"escheat/api"
	"escheat/frame"
)

// noise is n bytes that follow no simple rule, others for another seed.
func noise(n int, seed uint32) string {
	b := make([]byte, n)
	for i := range b {
		seed = seed*1664525 + 1013904223
		b[i] = byte(seed >> 24)
	}
	return string(b)
}

// texts are texts of any bytes, the empty one, frames, and those of about MaxText bytes among them.
func texts() []string {
	l := []string{"", "\x00", "\xff", "a", "ab", "hello", "ä€\xf0\x9f", "\x00\x00\x00\x00", "\x00\x00\x00\x00\x21\x44\xdf\x1c", framed("a"), strings.Repeat("\x00", 300), strings.Repeat("\xff", 300)}
	for _, n := range []int{3, 4, 7, 8, 9, 127, 128, 255, 256, 257, 1024, 4096, 65534, api.MaxText - 1, api.MaxText} {
		l = append(l, noise(n, uint32(n)))
	}
	return l
}

// head is the eight bytes of a length and a sum.
func head(length, sum uint32) string {
	return string(binary.BigEndian.AppendUint32(binary.BigEndian.AppendUint32(nil, length), sum))
}

// framed is the frame of s by the words alone, of a text that is too long too.
func framed(s string) string {
	length := binary.BigEndian.AppendUint32(nil, uint32(len(s)))
	return head(uint32(len(s)), crc32.ChecksumIEEE(append(length, s...))) + s
}

// expectNone holds that Next and Open of f tell err, and nothing beside it.
func expectNone(t *testing.T, what, f string, err api.Errno) {
	t.Helper()
	if s, size, got := frame.Next(f); s != "" || size != 0 || got != err {
		t.Errorf("%s: Next: %d bytes, size %d, %v, not %v", what, len(s), size, got, err)
	}
	if s, got := frame.Open(f); s != "" || got != err {
		t.Errorf("%s: Open: %d bytes, %v, not %v", what, len(s), got, err)
	}
}

// expectFrame holds that f begins with the frame of s, and is it, if nothing is left.
func expectFrame(t *testing.T, what, f, s string) {
	t.Helper()
	if got, size, err := frame.Next(f); got != s || size != 8+len(s) || err != api.OK {
		t.Errorf("%s: Next: %d bytes, size %d, %v", what, len(got), size, err)
	}
	want, wantErr := s, api.OK
	if len(f) > 8+len(s) {
		want, wantErr = "", api.ErrForm
	}
	if got, err := frame.Open(f); got != want || err != wantErr {
		t.Errorf("%s: Open: %d bytes, %v, not %d, %v", what, len(got), err, len(want), wantErr)
	}
}

// P4.1: the chapter's example, and others
func TestSeal(t *testing.T) {
	for _, x := range []struct {
		s, want string
	}{
		{"", "\x00\x00\x00\x00\x21\x44\xdf\x1c"},
		{"a", "\x00\x00\x00\x01\xe5\x8c\x97\x92a"},
		{"hello", "\x00\x00\x00\x05\x46\xf6\xd4\x86hello"},
		{"\x00", "\x00\x00\x00\x01\xdf\x39\xc6\x5c\x00"},
	} {
		if f, err := frame.Seal(x.s); f != x.want || err != api.OK {
			t.Errorf("Seal(%q) = %x, %v, not %x", x.s, f, err, x.want)
		}
	}
}

// P4.1
func TestSealOfAnyText(t *testing.T) {
	for _, s := range texts() {
		if f, err := frame.Seal(s); f != framed(s) || err != api.OK {
			t.Errorf("Seal of %d bytes, %.9q .., = %.12x .., %v, not %.12x ..", len(s), s, f, err, framed(s))
		}
	}
	for n := range 600 {
		s := noise(n, 7)
		if f, err := frame.Seal(s); f != framed(s) || err != api.OK {
			t.Errorf("Seal of %d bytes = %.12x .., %v, not %.12x ..", n, f, err, framed(s))
		}
	}
}

// P4.1
func TestSealOfALongText(t *testing.T) {
	for _, n := range []int{api.MaxText + 1, api.MaxText + 2, api.MaxText + 8, 2 * api.MaxText, 2*api.MaxText + 1, 1 << 24} {
		if f, err := frame.Seal(strings.Repeat("x", n)); f != "" || err != api.ErrLong {
			t.Errorf("Seal of %d bytes: %d bytes, %v", n, len(f), err)
		}
	}
}

// P4.1
func TestOpen(t *testing.T) {
	for _, s := range texts() {
		if got, err := frame.Open(framed(s)); got != s || err != api.OK {
			t.Errorf("Open of the frame of %d bytes, %.9q ..: %d bytes, %v", len(s), s, len(got), err)
		}
	}
}

// P4.1
func TestOpenWhereBytesAreLeft(t *testing.T) {
	for _, s := range texts() {
		for _, left := range []string{"\x00", "x", "\xff\xff\xff", "seven b", framed(""), framed("a"), framed(s), s + "\x00", noise(70000, 1)} {
			if got, err := frame.Open(framed(s) + left); got != "" || err != api.ErrForm {
				t.Errorf("Open of the frame of %d bytes and %d more: %d bytes, %v", len(s), len(left), len(got), err)
			}
		}
	}
}

// P4.1: what Next tells goes ahead of the bytes that are left.
func TestOpenTellsWhatNextTells(t *testing.T) {
	for _, x := range []struct {
		f   string
		err api.Errno
	}{
		{"", api.ErrShort},
		{"\x00\x00\x00\x00\x21\x44\xdf", api.ErrShort},
		{framed("a")[:8], api.ErrShort},
		{head(api.MaxText+1, 0), api.ErrLong},
		{framed(strings.Repeat("x", api.MaxText+1)), api.ErrLong},
		{framed(strings.Repeat("x", api.MaxText+1)) + "left", api.ErrLong},
		{head(0, 0), api.ErrSum},
		{head(0, 0) + "left", api.ErrSum},
		{head(1, 0) + "a" + framed("a"), api.ErrSum},
	} {
		if s, err := frame.Open(x.f); s != "" || err != x.err {
			t.Errorf("Open of %d bytes, %.12x ..: %d bytes, %v, not %v", len(x.f), x.f, len(s), err, x.err)
		}
	}
}

// P4.2
func TestNext(t *testing.T) {
	for _, s := range texts() {
		for _, left := range []string{"", "\x00", "x", "\xff\xff\xff\xff\xff\xff\xff\xff\xff", framed("a"), framed(s), noise(70000, 1)} {
			if got, size, err := frame.Next(framed(s) + left); got != s || size != 8+len(s) || err != api.OK {
				t.Errorf("Next of the frame of %d bytes and %d more: %d bytes, size %d, %v", len(s), len(left), len(got), size, err)
			}
		}
	}
}

// P4.2: fewer than eight bytes are short, even where they begin a length that is too great.
func TestNextOfFewerThanEightBytes(t *testing.T) {
	for _, f := range []string{framed(""), framed("a"), framed("hello"), head(1, 0), head(api.MaxText+1, 0), head(math.MaxUint32, math.MaxUint32)} {
		for n := range 8 {
			expectNone(t, "fewer than eight bytes", f[:n], api.ErrShort)
		}
	}
}

// P4.2: a length that is too great is told ahead of bytes that are not there, and of a sum that is not right.
func TestNextOfALengthThatIsTooGreat(t *testing.T) {
	for _, length := range []uint32{api.MaxText + 1, api.MaxText + 2, 2 * api.MaxText, 1<<24 + 1, math.MaxInt32, 1 << 31, 1<<31 + 1, 1<<32 - 9, 1<<32 - 8, math.MaxUint32} {
		for _, left := range []string{"", "\x00", "hello", noise(api.MaxText-1, 2), noise(api.MaxText, 2), noise(api.MaxText+1, 2), noise(3*api.MaxText, 2)} {
			expectNone(t, "a length that is too great", head(length, 0)+left, api.ErrLong)
		}
	}
	for _, n := range []int{api.MaxText + 1, api.MaxText + 2, 2 * api.MaxText} {
		expectNone(t, "a text that is too long", framed(noise(n, 3)), api.ErrLong)
		expectNone(t, "a text that is too long, and more", framed(noise(n, 3))+"more", api.ErrLong)
	}
}

// P4.2: bytes that are not there are told ahead of a sum that is not right.
func TestNextOfALengthThatIsNotThere(t *testing.T) {
	for _, s := range texts() {
		f := framed(s)
		for _, n := range []int{8, 9, 8 + len(s)/2, len(f) - 2, len(f) - 1} {
			if n < 8 || n >= len(f) {
				continue
			}
			expectNone(t, "cut off", f[:n], api.ErrShort)
			expectNone(t, "cut off, of another sum", head(uint32(len(s)), 0)+f[8:n], api.ErrShort)
		}
	}
	for _, length := range []uint32{1, 2, 255, 256, api.MaxText - 1, api.MaxText} {
		expectNone(t, "not there by one byte", head(length, 0)+noise(int(length)-1, 4), api.ErrShort)
		expectNone(t, "none there", head(length, 0), api.ErrShort)
	}
}

// P4.2
func TestNextOfASumThatIsNotRight(t *testing.T) {
	for _, s := range texts() {
		length := uint32(len(s))
		right := binary.BigEndian.Uint32([]byte(framed(s)[4:]))
		zeros := crc32.ChecksumIEEE(append(make([]byte, 4), s...))
		for _, sum := range []uint32{0, 1, math.MaxUint32, right + 1, right - 1, ^right, crc32.ChecksumIEEE([]byte(s)), zeros, swapped(right)} {
			if sum != right {
				expectNone(t, "another sum", head(length, sum)+s, api.ErrSum)
				expectNone(t, "another sum, and more", head(length, sum)+s+framed(s), api.ErrSum)
			}
		}
	}
	// The sum stands for the length too: none of another one is right.
	expectNone(t, "the sum of a longer text", framed("ab")[:3]+"\x01"+framed("ab")[4:], api.ErrSum)
	expectNone(t, "the sum of a shorter text", framed("a")[:3]+"\x02"+framed("a")[4:]+"b", api.ErrSum)
}

// swapped is v with its lowest byte first.
func swapped(v uint32) uint32 {
	return binary.LittleEndian.Uint32(binary.BigEndian.AppendUint32(nil, v))
}

// P4.2: whatever bytes are given, they are a frame and more, or none.
func TestNextOfAnyBytes(t *testing.T) {
	for n := range 40 {
		for seed := range uint32(60) {
			expectNoiseTold(t, noise(n, seed))
			expectNoiseTold(t, "\x00\x00\x00"+noise(n, seed))
		}
	}
}

func expectNoiseTold(t *testing.T, f string) {
	t.Helper()
	if len(f) < 8 {
		expectNone(t, "noise", f, api.ErrShort)
		return
	}
	length := int(binary.BigEndian.Uint32([]byte(f)))
	switch {
	case length > api.MaxText:
		expectNone(t, "noise", f, api.ErrLong)
	case len(f) < 8+length:
		expectNone(t, "noise", f, api.ErrShort)
	case f[:8+length] != framed(f[8:8+length]):
		expectNone(t, "noise", f, api.ErrSum)
	default:
		expectFrame(t, "noise", f, f[8:8+length])
	}
}

// P4.1, P4.2: what is told shares no memory with what was handed in, nor with another answer.
func TestWhatIsToldIsNew(t *testing.T) {
	s := noise(40, 5)
	f, _ := frame.Seal(s)
	again, _ := frame.Seal(s)
	if f != again || unsafe.StringData(f) == unsafe.StringData(again) {
		t.Error("two answers of Seal share memory, or differ")
	}
	opened, _ := frame.Open(f)
	next, _, _ := frame.Next(f)
	for _, x := range []string{opened, next} {
		if x != s || unsafe.StringData(x) == unsafe.StringData(f[8:]) {
			t.Errorf("%x shares memory with the frame, or differs", x)
		}
	}
	if unsafe.StringData(opened) == unsafe.StringData(next) {
		t.Error("two answers share memory")
	}
}

// sealed is Seal's frame of s.
func sealed(t *testing.T, s string) string {
	t.Helper()
	f, err := frame.Seal(s)
	if err != api.OK {
		t.Fatalf("Seal of %d bytes: %v", len(s), err)
	}
	return f
}

// P4.3
func TestOpenOfSealIsTheText(t *testing.T) {
	l := texts()
	for a := range 256 {
		l = append(l, string([]byte{byte(a)}), strings.Repeat(string([]byte{byte(a)}), 8))
	}
	for n := range 600 {
		l = append(l, noise(n, 11))
	}
	for _, s := range l {
		f := sealed(t, s)
		expectFrame(t, "sealed", f, s)
		for _, left := range []string{"\x00", "\xff", f, f[:len(f)-1], noise(9, 1)} {
			expectFrame(t, "sealed, and more", f+left, s)
		}
	}
}

// P4.3: frames in frames are opened one by one.
func TestSealedAgain(t *testing.T) {
	s := "hello"
	f := s
	for range 50 {
		f = sealed(t, f)
	}
	for range 50 {
		g, err := frame.Open(f)
		if err != api.OK {
			t.Fatalf("%d bytes: %v", len(f), err)
		}
		f = g
	}
	if f != s {
		t.Errorf("%q, not %q", f, s)
	}
}

// P4.3: frames one behind the other are gone through by their sizes.
func TestFramesOneBehindTheOther(t *testing.T) {
	l := texts()
	var all strings.Builder
	for _, s := range l {
		all.WriteString(sealed(t, s))
	}
	left := all.String()
	for i, s := range l {
		got, size, err := frame.Next(left)
		if got != s || size != 8+len(s) || err != api.OK {
			t.Fatalf("frame %d: %d bytes, not %d, size %d, %v", i, len(got), len(s), size, err)
		}
		left = left[size:]
	}
	if _, _, err := frame.Next(left); left != "" || err != api.ErrShort {
		t.Errorf("%d bytes are left, %v", len(left), err)
	}
}

// differences are up to 32 bits side by side that differ: one, two, all of them, and any.
func differences() []uint32 {
	l := []uint32{0xedb88320, 0xdb710641, 0x04c11db7, 0x82608edb, 0xaaaaaaaa, 0x55555555}
	for i := range 32 {
		l = append(l, 1<<i|1, 1<<i, math.MaxUint32>>i)
	}
	by := uint32(1)
	for range 200 {
		by = by*1664525 + 1013904223
		l = append(l, by)
	}
	return l
}

// turned is f with the bits of by turned over from the text's bit at on, of each byte the lowest first; false, where they are not all in the text.
func turned(f string, at int, by uint32) (string, bool) {
	b := []byte(f)
	text := b[8:]
	for i := range 32 {
		if by>>i&1 == 0 {
			continue
		}
		if at+i >= 8*len(text) {
			return "", false
		}
		text[(at+i)/8] ^= 1 << ((at + i) % 8)
	}
	return string(b), true
}

// P4.4
func TestTextTurnedOver(t *testing.T) {
	for _, s := range []string{"\x00", "a", "\xff\xff", "123", "\x00\x00\x00\x00", "1234", "12345", "123456789", strings.Repeat("\x00", 12), strings.Repeat("\xff", 9), noise(30, 9)} {
		f := sealed(t, s)
		for at := range 8 * len(s) {
			for _, by := range differences() {
				if g, ok := turned(f, at, by); ok {
					expectNone(t, "a text turned over", g, api.ErrSum)
				}
			}
		}
		for _, by := range differences() {
			if g, ok := turned(f, 0, by); ok {
				expectNone(t, "a text turned over, and more", g+f, api.ErrSum)
			}
		}
	}
}

// P4.4
func TestLongTextTurnedOver(t *testing.T) {
	for _, n := range []int{1000, api.MaxText} {
		f := sealed(t, noise(n, 6))
		for _, at := range []int{0, 1, 7, 8, 31, 32, 4 * n, 8*n - 33, 8*n - 32, 8*n - 8, 8*n - 1} {
			for _, by := range []uint32{1, 3, 0x80000001, 0xedb88320, 0xdb710641, 0x82608edb, math.MaxUint32} {
				if g, ok := turned(f, at, by); ok {
					expectNone(t, "a long text turned over", g, api.ErrSum)
				}
			}
		}
	}
}

// P4.4
func TestSumTurnedOver(t *testing.T) {
	for _, s := range []string{"", "\x00", "a", "hello", "\xff\xff\xff\xff", noise(300, 8)} {
		f := sealed(t, s)
		sum := binary.BigEndian.Uint32([]byte(f[4:]))
		for _, by := range differences() {
			g := head(uint32(len(s)), sum^by) + s
			expectNone(t, "a sum turned over", g, api.ErrSum)
			expectNone(t, "a sum turned over, and more", g+f, api.ErrSum)
		}
	}
	f := sealed(t, noise(api.MaxText, 8))
	for i := range 32 {
		b := []byte(f)
		b[4+i/8] ^= 1 << (i % 8)
		expectNone(t, "the sum of a long text turned over", string(b), api.ErrSum)
	}
}
