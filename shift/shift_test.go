package shift_test

import (
	"math"
	"strings"
	"testing"

	"escheat/shift"
)

// words are numbers whose bits tell places and signs apart.
func words() []uint64 {
	l := []uint64{
		0, 1, 2, 127, 128, 255, 256, 258, 0xffff, 0x10000,
		0x0123456789abcdef, 0xfedcba9876543210, 0x8000000000000001,
		0x5555555555555555, 0xaaaaaaaaaaaaaaaa,
		math.MaxInt64, math.MaxInt64 + 1, math.MaxUint64 - 1, math.MaxUint64,
	}
	for i := range 64 {
		l = append(l, 1<<i, 1<<i-1, ^(uint64(1) << i))
	}
	return l
}

// wholes are ints ahead of, within and behind all that a size, a place or a turn may be.
func wholes() []int {
	l := []int{math.MinInt, math.MinInt + 1, math.MinInt + 64, math.MinInt32, math.MaxInt32, math.MaxInt - 64, math.MaxInt - 1, math.MaxInt}
	for i := -70; i <= 70; i++ {
		l = append(l, i)
	}
	return l
}

// bit is v's bit at i, by division alone.
func bit(v uint64, i int) uint64 {
	for range i {
		v /= 2
	}
	return v % 2
}

// P1.1
func TestPut(t *testing.T) {
	for _, x := range []struct {
		v    uint64
		size int
		want string
	}{
		{258, 2, "\x01\x02"},
		{258, 1, "\x02"},
		{258, 4, "\x00\x00\x01\x02"},
		{0x0123456789abcdef, 8, "\x01\x23\x45\x67\x89\xab\xcd\xef"},
		{0x0123456789abcdef, 7, "\x23\x45\x67\x89\xab\xcd\xef"},
		{0x0123456789abcdef, 3, "\xab\xcd\xef"},
		{math.MaxUint64, 8, "\xff\xff\xff\xff\xff\xff\xff\xff"},
		{0, 8, "\x00\x00\x00\x00\x00\x00\x00\x00"},
		{0, 0, ""},
		{math.MaxUint64, 0, ""},
	} {
		if got := shift.Put(x.v, x.size); got != x.want {
			t.Errorf("Put(%#x, %d) = %x, not %x", x.v, x.size, got, x.want)
		}
	}
}

// P1.1
func TestPutOfNoSize(t *testing.T) {
	for _, size := range wholes() {
		if size >= 0 && size <= 8 {
			continue
		}
		for _, v := range []uint64{0, 1, math.MaxUint64} {
			if got := shift.Put(v, size); got != "" {
				t.Errorf("Put(%#x, %d) = %x, not empty", v, size, got)
			}
		}
	}
}

// P1.1
func TestGet(t *testing.T) {
	const s = "\x01\x02\x03\x04\x05\x06\x07\x08\xff"
	for _, x := range []struct {
		s        string
		at, size int
		want     uint64
		ok       bool
	}{
		{s, 0, 2, 0x0102, true},
		{s, 1, 1, 0x02, true},
		{s, 0, 8, 0x0102030405060708, true},
		{s, 1, 8, 0x02030405060708ff, true},
		{s, 2, 8, 0, false},
		{s, 8, 1, 0xff, true},
		{s, 8, 2, 0, false},
		{s, 9, 1, 0, false},
		{s, 0, 0, 0, true},
		{s, 9, 0, 0, true},
		{s, 10, 0, 0, false},
		{s, 0, 9, 0, false},
		{s, 0, -1, 0, false},
		{s, 1, -1, 0, false},
		{s, -1, 0, 0, false},
		{s, -1, 2, 0, false},
		{"", 0, 0, 0, true},
		{"", 0, 1, 0, false},
		{"", 1, 0, 0, false},
		{"\xff\xff\xff\xff\xff\xff\xff\xff", 0, 8, math.MaxUint64, true},
	} {
		if got, ok := shift.Get(x.s, x.at, x.size); got != x.want || ok != x.ok {
			t.Errorf("Get(%x, %d, %d) = %#x, %t", x.s, x.at, x.size, got, ok)
		}
	}
}

// P1.1
func TestGetAnywhere(t *testing.T) {
	const s = "\x81\x82\x83\x84\x85\x86\x87\x88\x89\x8a"
	for _, at := range wholes() {
		for _, size := range wholes() {
			there := size >= 0 && size <= 8 && at >= 0 && at <= len(s) && size <= len(s)-at
			var want uint64
			if there {
				for _, c := range []byte(s[at : at+size]) {
					want = want*256 + uint64(c)
				}
			}
			if got, ok := shift.Get(s, at, size); got != want || ok != there {
				t.Errorf("Get(s, %d, %d) = %#x, %t, not %#x, %t", at, size, got, ok, want, there)
			}
		}
	}
}

// P1.2
func TestSigned(t *testing.T) {
	for _, x := range []struct {
		v    uint64
		bits int
		want int64
	}{
		{255, 8, -1},
		{127, 8, 127},
		{128, 8, -128},
		{0x17f, 8, 127},
		{0x1ff, 8, -1},
		{0, 1, 0},
		{1, 1, -1},
		{2, 1, 0},
		{math.MaxUint64, 64, -1},
		{math.MaxInt64, 64, math.MaxInt64},
		{1 << 63, 64, math.MinInt64},
		{1 << 63, 63, 0},
		{1 << 62, 63, -1 << 62},
	} {
		if got := shift.Signed(x.v, x.bits); got != x.want {
			t.Errorf("Signed(%#x, %d) = %d, not %d", x.v, x.bits, got, x.want)
		}
	}
}

// P1.2
func TestSignedOfAllBits(t *testing.T) {
	for _, v := range words() {
		for _, bits := range wholes() {
			var want int64
			if bits >= 1 && bits <= 64 {
				for i := range bits - 1 {
					want += int64(bit(v, i)) << i
				}
				if bit(v, bits-1) == 1 {
					want += math.MinInt64 >> (64 - bits)
				}
			}
			if got := shift.Signed(v, bits); got != want {
				t.Errorf("Signed(%#x, %d) = %d, not %d", v, bits, got, want)
			}
		}
	}
}

// P1.2
func TestFit(t *testing.T) {
	for _, x := range []struct {
		v    int64
		bits int
		want int64
	}{
		{200, 8, 127},
		{128, 8, 127},
		{127, 8, 127},
		{5, 8, 5},
		{0, 8, 0},
		{-128, 8, -128},
		{-129, 8, -128},
		{-200, 8, -128},
		{1, 1, 0},
		{0, 1, 0},
		{-1, 1, -1},
		{-2, 1, -1},
		{math.MaxInt64, 64, math.MaxInt64},
		{math.MinInt64, 64, math.MinInt64},
		{math.MaxInt64, 63, 1<<62 - 1},
		{math.MinInt64, 63, -1 << 62},
		{math.MaxInt64, 1, 0},
		{math.MinInt64, 1, -1},
	} {
		if got := shift.Fit(x.v, x.bits); got != x.want {
			t.Errorf("Fit(%d, %d) = %d, not %d", x.v, x.bits, got, x.want)
		}
	}
}

// P1.2
func TestFitOfAllBits(t *testing.T) {
	for _, w := range words() {
		v := int64(w)
		for _, bits := range wholes() {
			var want int64
			if bits >= 1 && bits <= 64 {
				var least, greatest int64 = -1, 0
				for range bits - 1 {
					least, greatest = 2*least, 2*greatest+1
				}
				switch want = v; {
				case v < least:
					want = least
				case v > greatest:
					want = greatest
				}
			}
			if got := shift.Fit(v, bits); got != want {
				t.Errorf("Fit(%d, %d) = %d, not %d", v, bits, got, want)
			}
		}
	}
}

// P1.3
func TestFieldAndWith(t *testing.T) {
	const v = 0xfedcba9876543210
	for _, x := range []struct {
		at, bits int
		f        uint64
		field    uint64
		with     uint64
	}{
		{0, 4, 0xa, 0x0, 0xfedcba987654321a},
		{4, 8, 0xff, 0x21, 0xfedcba9876543ff0},
		{4, 8, 0xf00, 0x21, 0xfedcba9876543000},
		{4, 8, math.MaxUint64, 0x21, 0xfedcba9876543ff0},
		{60, 4, 0x1, 0xf, 0x1edcba9876543210},
		{63, 1, 0, 1, 0x7edcba9876543210},
		{0, 64, 7, v, 7},
		{0, 63, math.MaxUint64, 0x7edcba9876543210, math.MaxUint64},
		{1, 63, 0, 0x7f6e5d4c3b2a1908, 0},
		{0, 0, 7, 0, v},
		{64, 0, 7, 0, v},
		{65, 0, 7, 0, v},
		{64, 1, 7, 0, v},
		{61, 4, 7, 0, v},
		{1, 64, 7, 0, v},
		{0, 65, 7, 0, v},
		{-1, 4, 7, 0, v},
		{-1, 65, 7, 0, v},
		{4, -1, 7, 0, v},
		{65, -1, 7, 0, v},
		{math.MaxInt, 1, 7, 0, v},
		{1, math.MaxInt, 7, 0, v},
		{math.MaxInt, math.MaxInt, 7, 0, v},
		{math.MinInt, math.MinInt, 7, 0, v},
		{math.MinInt, math.MaxInt, 7, 0, v},
	} {
		if got := shift.Field(v, x.at, x.bits); got != x.field {
			t.Errorf("Field(v, %d, %d) = %#x, not %#x", x.at, x.bits, got, x.field)
		}
		if got := shift.With(v, x.at, x.bits, x.f); got != x.with {
			t.Errorf("With(v, %d, %d, %#x) = %#x, not %#x", x.at, x.bits, x.f, got, x.with)
		}
	}
}

// P1.3
func TestFieldAndWithAnywhere(t *testing.T) {
	const f = 0xc96c5795d7870f43
	for _, v := range []uint64{0, math.MaxUint64, 0x0123456789abcdef, 0xfedcba9876543210} {
		for _, at := range wholes() {
			for _, bits := range wholes() {
				var field uint64
				with := v
				if at >= 0 && at <= 64 && bits >= 0 && bits <= 64-at {
					for i := range bits {
						field += bit(v, at+i) << i
						with -= bit(v, at+i) << (at + i)
						with += bit(f, i) << (at + i)
					}
				}
				if got := shift.Field(v, at, bits); got != field {
					t.Errorf("Field(%#x, %d, %d) = %#x, not %#x", v, at, bits, got, field)
				}
				if got := shift.With(v, at, bits, f); got != with {
					t.Errorf("With(%#x, %d, %d, %#x) = %#x, not %#x", v, at, bits, uint64(f), got, with)
				}
			}
		}
	}
}

// P1.3
func TestTurn(t *testing.T) {
	for _, x := range []struct {
		v    uint32
		n    int
		want uint32
	}{
		{1, 33, 2},
		{1, 0, 1},
		{1, 1, 2},
		{1, 31, 0x80000000},
		{1, 32, 1},
		{1, -1, 0x80000000},
		{1, -31, 2},
		{1, -32, 1},
		{1, -33, 0x80000000},
		{0x80000001, 4, 0x18},
		{0x12345678, 8, 0x34567812},
		{0x12345678, -8, 0x78123456},
		{0x12345678, math.MinInt, 0x12345678},
		{0x12345678, math.MinInt + 8, 0x34567812},
		{0x12345678, math.MaxInt, 0x091a2b3c},
		{0, 7, 0},
		{math.MaxUint32, 7, math.MaxUint32},
	} {
		if got := shift.Turn(x.v, x.n); got != x.want {
			t.Errorf("Turn(%#x, %d) = %#x, not %#x", x.v, x.n, got, x.want)
		}
	}
}

// P1.3
func TestTurnByAny(t *testing.T) {
	for _, w := range words() {
		v := uint32(w)
		for _, n := range wholes() {
			steps := n % 32
			if steps < 0 {
				steps += 32
			}
			want := v
			for range steps {
				want = want*2 + want/0x80000000
			}
			if got := shift.Turn(v, n); got != want {
				t.Errorf("Turn(%#x, %d) = %#x, not %#x", v, n, got, want)
			}
		}
	}
}

// P1.3
func TestCount(t *testing.T) {
	for _, x := range []struct {
		v    uint64
		want int
	}{
		{0, 0},
		{1, 1},
		{255, 8},
		{1 << 63, 1},
		{0x5555, 8},
		{math.MaxUint32, 32},
		{math.MaxUint64 - 1, 63},
		{math.MaxUint64, 64},
	} {
		if got := shift.Count(x.v); got != x.want {
			t.Errorf("Count(%#x) = %d, not %d", x.v, got, x.want)
		}
	}
	for _, v := range words() {
		want := 0
		for i := range 64 {
			want += int(bit(v, i))
		}
		if got := shift.Count(v); got != want {
			t.Errorf("Count(%#x) = %d, not %d", v, got, want)
		}
	}
}

// P1.4
func TestWhatWasPutIsGot(t *testing.T) {
	for _, v := range words() {
		for size := range 9 {
			want := v
			if size < 8 {
				want = v % (1 << (8 * size))
			}
			put := shift.Put(v, size)
			if len(put) != size {
				t.Errorf("Put(%#x, %d) has %d bytes", v, size, len(put))
			}
			for _, ahead := range []string{"", "\xff", strings.Repeat("ab", 9)} {
				got, ok := shift.Get(ahead+put+"\xff", len(ahead), size)
				if got != want || !ok {
					t.Errorf("Get of Put(%#x, %d) behind %d bytes = %#x, %t", v, size, len(ahead), got, ok)
				}
			}
		}
	}
}

// P1.4
func TestWhatAFieldWasSetToIsTheField(t *testing.T) {
	for _, v := range []uint64{0, math.MaxUint64, 0x0123456789abcdef} {
		for _, f := range words() {
			for at := range 65 {
				for bits := range 65 - at {
					want := f
					if bits < 64 {
						want = f % (1 << bits)
					}
					with := shift.With(v, at, bits, f)
					if got := shift.Field(with, at, bits); got != want {
						t.Errorf("Field of With(%#x, %d, %d, %#x) = %#x", v, at, bits, f, got)
					}
				}
			}
		}
	}
}

// P1.4
func TestATurnForthAndBackIsNone(t *testing.T) {
	for _, w := range words() {
		v := uint32(w)
		for _, n := range wholes() {
			if got := shift.Turn(shift.Turn(v, n), -n); got != v {
				t.Errorf("Turn(%#x, %d) and back = %#x", v, n, got)
			}
		}
	}
}
