package pack_test

import (
	"math"
	"strings"
	"testing"
	"unsafe"

	"escheat/api"
	"escheat/pack"
)

// packed is what a packer tells to which f gave its fields.
func packed(f func(p *pack.Packer)) (string, api.Errno) {
	p := pack.New()
	f(p)
	return p.Done()
}

// noSizes are sizes that no number has.
func noSizes() []int {
	l := []int{math.MinInt, math.MinInt + 8, -256, math.MaxInt32, math.MaxInt - 7, math.MaxInt, 255, 256, 257, 258, 260, 264, 1 << 32, 1<<32 + 8}
	for size := -70; size <= 70; size++ {
		if size != 1 && size != 2 && size != 4 && size != 8 {
			l = append(l, size)
		}
	}
	return l
}

// most is the greatest number that size bytes hold.
func most(size int) int64 {
	if size == 8 {
		return math.MaxInt64
	}
	return 1<<(8*size) - 1
}

// expectSpoilt holds that u is spoilt, and stays so whatever it is asked.
func expectSpoilt(t *testing.T, what string, u *pack.Unpacker) {
	t.Helper()
	for range 2 {
		if n, err := u.Left(), u.End(); n != 0 || err != api.ErrForm {
			t.Errorf("%s: %d left, %v at the end", what, n, err)
		}
		for _, size := range []int{1, 2, 4, 8, 0, -1, 3} {
			if v := u.Num(size); v != 0 {
				t.Errorf("%s: then Num(%d) = %d", what, size, v)
			}
		}
		for _, most := range []int{0, 1, 65535, math.MaxInt, -1} {
			if s := u.Text(most); s != "" {
				t.Errorf("%s: then Text(%d) = %q", what, most, s)
			}
		}
	}
	if n, err := u.Left(), u.End(); n != 0 || err != api.ErrForm {
		t.Errorf("%s: %d left, %v in the end", what, n, err)
	}
}

// P3.1
func TestNothingIsPacked(t *testing.T) {
	p := pack.New()
	for range 2 {
		if s, err := p.Done(); s != "" || err != api.OK {
			t.Errorf("%q, %v", s, err)
		}
	}
}

// P3.1: the chapter's example
func TestExample(t *testing.T) {
	s, err := packed(func(p *pack.Packer) { p.Num(5, 2); p.Text("a") })
	if s != "\x00\x05\x00\x01\x61" || err != api.OK {
		t.Errorf("%x, %v", s, err)
	}
}

// P3.1
func TestNum(t *testing.T) {
	for _, x := range []struct {
		v    int64
		size int
		want string
	}{
		{0, 1, "\x00"},
		{1, 1, "\x01"},
		{127, 1, "\x7f"},
		{128, 1, "\x80"},
		{255, 1, "\xff"},
		{0, 2, "\x00\x00"},
		{258, 2, "\x01\x02"},
		{1 << 15, 2, "\x80\x00"},
		{1<<16 - 1, 2, "\xff\xff"},
		{0, 4, "\x00\x00\x00\x00"},
		{0x01020304, 4, "\x01\x02\x03\x04"},
		{1 << 31, 4, "\x80\x00\x00\x00"},
		{1<<32 - 1, 4, "\xff\xff\xff\xff"},
		{0, 8, "\x00\x00\x00\x00\x00\x00\x00\x00"},
		{0x0123456789abcdef, 8, "\x01\x23\x45\x67\x89\xab\xcd\xef"},
		{1<<32 - 1, 8, "\x00\x00\x00\x00\xff\xff\xff\xff"},
		{math.MaxInt64, 8, "\x7f\xff\xff\xff\xff\xff\xff\xff"},
	} {
		if s, err := packed(func(p *pack.Packer) { p.Num(x.v, x.size) }); s != x.want || err != api.OK {
			t.Errorf("Num(%d, %d): %x, %v, not %x", x.v, x.size, s, err, x.want)
		}
	}
}

// P3.1
func TestNumThatSizeDoesNotHold(t *testing.T) {
	for _, x := range []struct {
		v    int64
		size int
	}{
		{256, 1}, {257, 1}, {1 << 16, 1}, {1 << 32, 1}, {math.MaxInt64, 1},
		{1 << 16, 2}, {1<<16 + 5, 2}, {1 << 32, 2}, {math.MaxInt64, 2},
		{1 << 32, 4}, {1<<32 + 5, 4}, {math.MaxInt64, 4},
		{-1, 1}, {-1, 2}, {-1, 4}, {-1, 8},
		{-128, 1}, {-255, 1}, {-256, 1}, {-1 << 15, 2}, {-1 << 16, 2}, {-1 << 31, 4}, {-1 << 32, 4},
		{math.MinInt64, 1}, {math.MinInt64, 2}, {math.MinInt64, 4}, {math.MinInt64, 8}, {math.MinInt64 + 1, 8},
	} {
		if s, err := packed(func(p *pack.Packer) { p.Num(x.v, x.size) }); s != "" || err != api.ErrForm {
			t.Errorf("Num(%d, %d): %x, %v", x.v, x.size, s, err)
		}
	}
}

// P3.1
func TestNumOfNoSize(t *testing.T) {
	for _, size := range noSizes() {
		for _, v := range []int64{0, 1, -1, math.MaxInt64} {
			if s, err := packed(func(p *pack.Packer) { p.Num(v, size) }); s != "" || err != api.ErrForm {
				t.Errorf("Num(%d, %d): %x, %v", v, size, s, err)
			}
		}
	}
}

// P3.1
func TestText(t *testing.T) {
	for _, x := range []struct {
		s, length string
	}{
		{"", "\x00\x00"},
		{"a", "\x00\x01"},
		{"\x00\xff\x80", "\x00\x03"},
		{"ä€", "\x00\x05"},
		{strings.Repeat("x", 255), "\x00\xff"},
		{strings.Repeat("x", 256), "\x01\x00"},
		{strings.Repeat("y", 65534), "\xff\xfe"},
	} {
		if s, err := packed(func(p *pack.Packer) { p.Text(x.s) }); s != x.length+x.s || err != api.OK {
			t.Errorf("a text of %d bytes: %d bytes, %v", len(x.s), len(s), err)
		}
	}
}

// P3.1: a text of 65535 bytes is none that spoils, though its length makes too much of it; one more spoils.
func TestLongText(t *testing.T) {
	for _, x := range []struct {
		n    int
		want api.Errno
	}{
		{65534, api.OK}, {65535, api.ErrLong}, {65536, api.ErrForm}, {65537, api.ErrForm}, {2 * 65536, api.ErrForm}, {2*65536 + 5, api.ErrForm},
	} {
		s, err := packed(func(p *pack.Packer) { p.Text(strings.Repeat("x", x.n)) })
		if err != x.want || (s == "") != (x.want != api.OK) {
			t.Errorf("a text of %d bytes: %d bytes, %v, not %v", x.n, len(s), err, x.want)
		}
	}
}

// P3.1
func TestAllFieldsTogether(t *testing.T) {
	nums := func(n, size int) func(p *pack.Packer) {
		return func(p *pack.Packer) {
			for range n {
				p.Num(7, size)
			}
		}
	}
	texts := func(l ...int) func(p *pack.Packer) {
		return func(p *pack.Packer) {
			for _, n := range l {
				p.Text(strings.Repeat("x", n))
			}
		}
	}
	for i, x := range []struct {
		f   func(p *pack.Packer)
		n   int
		err api.Errno
	}{
		{nums(api.MaxText, 1), api.MaxText, api.OK},
		{nums(api.MaxText+1, 1), 0, api.ErrLong},
		{nums(api.MaxText/8, 8), api.MaxText, api.OK},
		{nums(api.MaxText/8+1, 8), 0, api.ErrLong},
		{texts(32766, 32766), api.MaxText, api.OK},
		{texts(32766, 32767), 0, api.ErrLong},
		{texts(65532, 0), api.MaxText, api.OK},
		{texts(65533, 0), 0, api.ErrLong},
		{texts(65535, 65535, 65535), 0, api.ErrLong},
	} {
		if s, err := packed(x.f); len(s) != x.n || err != x.err {
			t.Errorf("%d: %d bytes, %v", i, len(s), err)
		}
	}
}

// P3.1: what is too long is so for all time, even where a later field would find room.
func TestTooLongStaysSo(t *testing.T) {
	p := pack.New()
	p.Num(1, 1)
	p.Text(strings.Repeat("x", 65535))
	for range 2 {
		p.Num(1, 1)
		p.Text("")
		if s, err := p.Done(); s != "" || err != api.ErrLong {
			t.Errorf("%d bytes, %v", len(s), err)
		}
	}
}

// P3.1: what is spoilt is so for all time, and tells that ahead of its length.
func TestSpoiltStaysSo(t *testing.T) {
	long := strings.Repeat("x", 65535)
	for i, f := range []func(p *pack.Packer){
		func(p *pack.Packer) { p.Num(1, 1); p.Num(256, 1); p.Num(1, 1) },
		func(p *pack.Packer) { p.Num(1, 3); p.Text("a") },
		func(p *pack.Packer) { p.Text("a"); p.Text(long + "x"); p.Num(1, 2); p.Text("a") },
		func(p *pack.Packer) { p.Num(-1, 8); p.Text(long); p.Text(long) },
		func(p *pack.Packer) { p.Text(long); p.Text(long); p.Num(-1, 8) },
		func(p *pack.Packer) { p.Text(long); p.Num(1, 0); p.Text(long) },
		func(p *pack.Packer) { p.Text(long); p.Text(long + "x") },
	} {
		p := pack.New()
		f(p)
		for range 2 {
			if s, err := p.Done(); s != "" || err != api.ErrForm {
				t.Errorf("%d: %d bytes, %v", i, len(s), err)
			}
			p.Num(5, 2)
			p.Text("a")
		}
	}
}

// P3.1: Done ends nothing, and what it told stays as it was.
func TestPackingGoesOn(t *testing.T) {
	p := pack.New()
	p.Num(5, 2)
	first, _ := p.Done()
	again, err := p.Done()
	if first != "\x00\x05" || again != first || err != api.OK {
		t.Errorf("%x, then %x, %v", first, again, err)
	}
	p.Text("a")
	second, err := p.Done()
	if second != "\x00\x05\x00\x01a" || first != "\x00\x05" || err != api.OK {
		t.Errorf("%x, %x, %v", first, second, err)
	}
	p.Num(0, 3)
	if s, err := p.Done(); s != "" || err != api.ErrForm || second != "\x00\x05\x00\x01a" {
		t.Errorf("%x, %v, and of before %x", s, err, second)
	}
}

// P3.1: no packer is in another's way.
func TestPackersAreApart(t *testing.T) {
	p, q := pack.New(), pack.New()
	p.Num(1, 1)
	q.Num(2, 2)
	p.Text("p")
	q.Num(-1, 1)
	if s, err := p.Done(); s != "\x01\x00\x01p" || err != api.OK {
		t.Errorf("%x, %v", s, err)
	}
	if s, err := q.Done(); s != "" || err != api.ErrForm {
		t.Errorf("%x, %v", s, err)
	}
	if s, err := pack.New().Done(); s != "" || err != api.OK {
		t.Errorf("%x, %v", s, err)
	}
}

// P3.1
func TestNoPacker(t *testing.T) {
	var p *pack.Packer
	p.Num(1, 1)
	p.Num(-1, 3)
	p.Text("a")
	p.Text(strings.Repeat("x", 65536))
	if s, err := p.Done(); s != "" || err != api.ErrArg {
		t.Errorf("%q, %v", s, err)
	}
}

// P3.2
func TestUnpackNum(t *testing.T) {
	const s = "\x01\x02\x03\x04\x05\x06\x07\x08\xff"
	for _, x := range []struct {
		s    string
		size int
		want int64
		left int
	}{
		{s, 1, 0x01, 8},
		{s, 2, 0x0102, 7},
		{s, 4, 0x01020304, 5},
		{s, 8, 0x0102030405060708, 1},
		{"\xff", 1, 255, 0},
		{"\xff\xff", 2, 1<<16 - 1, 0},
		{"\xff\xff\xff\xff", 4, 1<<32 - 1, 0},
		{"\x80\x00\x00\x00", 4, 1 << 31, 0},
		{"\x7f\xff\xff\xff\xff\xff\xff\xff", 8, math.MaxInt64, 0},
		{"\x00\xff\xff\xff\xff\xff\xff\xff", 8, 1<<56 - 1, 0},
		{"\x00\x00\x00\x00\x00\x00\x00\x00", 8, 0, 0},
	} {
		u := pack.Open(x.s)
		if v := u.Num(x.size); v != x.want || u.Left() != x.left {
			t.Errorf("Num(%d) of %x = %d, %d left", x.size, x.s, v, u.Left())
		}
		want := api.OK
		if x.left > 0 {
			want = api.ErrForm
		}
		if err := u.End(); err != want {
			t.Errorf("behind Num(%d) of %x: %v", x.size, x.s, err)
		}
	}
}

// P3.2
func TestUnpackNumThatIsNotThere(t *testing.T) {
	for _, size := range []int{1, 2, 4, 8} {
		for n := range size {
			u := pack.Open(strings.Repeat("\x01", n))
			if v := u.Num(size); v != 0 {
				t.Errorf("Num(%d) of %d bytes = %d", size, n, v)
			}
			expectSpoilt(t, "too short", u)
		}
	}
	for _, s := range []string{"\x80\x00\x00\x00\x00\x00\x00\x00", "\xff\xff\xff\xff\xff\xff\xff\xff\x01\x01"} {
		u := pack.Open(s)
		if v := u.Num(8); v != 0 {
			t.Errorf("Num(8) of %x = %d", s, v)
		}
		expectSpoilt(t, "the highest bit", u)
	}
}

// P3.2
func TestUnpackNumOfNoSize(t *testing.T) {
	for _, size := range noSizes() {
		for _, s := range []string{"", "\x00\x01", strings.Repeat("\x01", 100)} {
			u := pack.Open(s)
			if v := u.Num(size); v != 0 {
				t.Errorf("Num(%d) of %d bytes = %d", size, len(s), v)
			}
			expectSpoilt(t, "no size", u)
		}
	}
}

// P3.2
func TestUnpackText(t *testing.T) {
	long := strings.Repeat("xy", 32767) + "z"
	for _, x := range []struct {
		s    string
		most int
		want string
		left int
	}{
		{"\x00\x00", 0, "", 0},
		{"\x00\x00", 5, "", 0},
		{"\x00\x00ab", 0, "", 2},
		{"\x00\x02ab", 2, "ab", 0},
		{"\x00\x02abc", 3, "ab", 1},
		{"\x00\x02\x00\xff\x00", math.MaxInt, "\x00\xff", 1},
		{"\x01\x00" + strings.Repeat("x", 300), 256, strings.Repeat("x", 256), 44},
		{"\xff\xff" + long, 65535, long, 0},
		{"\xff\xff" + long + "ab", 1 << 20, long, 2},
	} {
		u := pack.Open(x.s)
		if s := u.Text(x.most); s != x.want || u.Left() != x.left {
			t.Errorf("Text(%d) of %d bytes: %d bytes, %d left", x.most, len(x.s), len(s), u.Left())
		}
		want := api.OK
		if x.left > 0 {
			want = api.ErrForm
		}
		if err := u.End(); err != want {
			t.Errorf("behind Text(%d) of %d bytes: %v", x.most, len(x.s), err)
		}
	}
}

// P3.2
func TestUnpackTextThatIsNotThere(t *testing.T) {
	long := strings.Repeat("x", 65535)
	for _, x := range []struct {
		s    string
		most int
	}{
		{"", 9}, {"\x00", 9}, {"\x00\x01", 9}, {"\x00\x02a", 9}, {"\xff\xff" + long[1:], 65535},
		{"\x00\x02ab", 1}, {"\x00\x01ab", 0}, {"\x01\x00" + long, 255}, {"\xff\xff" + long, 65534},
		{"\x00\x00", -1}, {"\x00\x01a", -1}, {"\x00\x00", math.MinInt}, {"\x00\x02ab", math.MinInt},
		{"", 0}, {"", -1},
	} {
		u := pack.Open(x.s)
		if s := u.Text(x.most); s != "" {
			t.Errorf("Text(%d) of %d bytes: %d bytes", x.most, len(x.s), len(s))
		}
		expectSpoilt(t, "no text", u)
	}
}

// P3.2: a field that is not there behind others that are spoils all that is left.
func TestSpoiltBehindFields(t *testing.T) {
	for i, f := range []func(u *pack.Unpacker){
		func(u *pack.Unpacker) { u.Num(3) },
		func(u *pack.Unpacker) { u.Num(0) },
		func(u *pack.Unpacker) { u.Num(8) },
		func(u *pack.Unpacker) { u.Text(0) },
		func(u *pack.Unpacker) { u.Text(-1) },
	} {
		u := pack.Open("\x05\x00\x01a\x00\x01bc")
		if u.Num(1) != 5 || u.Text(1) != "a" || u.Left() != 4 {
			t.Errorf("%d: %d left", i, u.Left())
		}
		f(u)
		expectSpoilt(t, "behind fields", u)
	}
}

// P3.2: Left and End ask, and change nothing.
func TestLeftAndEnd(t *testing.T) {
	u := pack.Open("abc")
	for i, want := range []int64{'a', 'b', 'c'} {
		for range 2 {
			if n, err := u.Left(), u.End(); n != 3-i || err != api.ErrForm {
				t.Errorf("%d left, %v", n, err)
			}
		}
		if v := u.Num(1); v != want {
			t.Errorf("%d, not %d", v, want)
		}
	}
	for range 2 {
		if n, err := u.Left(), u.End(); n != 0 || err != api.OK {
			t.Errorf("%d left, %v", n, err)
		}
	}
	u.Num(1)
	expectSpoilt(t, "behind the end", u)

	if u := pack.Open(""); u.Left() != 0 || u.End() != api.OK {
		t.Errorf("of nothing: %d left, %v", u.Left(), u.End())
	}
	if n := pack.Open(strings.Repeat("x", 1<<20)).Left(); n != 1<<20 {
		t.Errorf("%d left of 2^20", n)
	}
}

// P3.2: no unpacker is in another's way.
func TestUnpackersAreApart(t *testing.T) {
	const s = "\x01\x00\x01a"
	u, v := pack.Open(s), pack.Open(s)
	u.Num(1)
	v.Num(3)
	if u.Text(1) != "a" || u.End() != api.OK {
		t.Errorf("%d left, %v", u.Left(), u.End())
	}
	expectSpoilt(t, "the other", v)
}

// P3.2
func TestNoUnpacker(t *testing.T) {
	var u *pack.Unpacker
	for _, size := range []int{1, 2, 4, 8, 0, 3, -1} {
		if v := u.Num(size); v != 0 {
			t.Errorf("Num(%d) = %d", size, v)
		}
	}
	for _, most := range []int{0, 5, -1} {
		if s := u.Text(most); s != "" {
			t.Errorf("Text(%d) = %q", most, s)
		}
	}
	if n, err := u.Left(), u.End(); n != 0 || err != api.ErrArg {
		t.Errorf("%d left, %v", n, err)
	}
}

// P3.1, P3.2: what is told shares no memory with what was handed in, nor with what is kept.
func TestWhatIsToldIsNew(t *testing.T) {
	s := strings.Repeat("a", 40)
	packedTwice := func() (string, string) {
		p := pack.New()
		p.Text(s)
		a, _ := p.Done()
		b, _ := p.Done()
		return a, b
	}
	a, b := packedTwice()
	if a != b || unsafe.StringData(a) == unsafe.StringData(b) {
		t.Error("two answers of Done share memory, or differ")
	}
	if got := pack.Open(a).Text(40); got != s || unsafe.StringData(got) == unsafe.StringData(a[2:]) {
		t.Errorf("Text's answer %q shares memory with what was opened, or differs", got)
	}
}

// field is a number in size bytes, or a text where size is 0.
type field struct {
	v    int64
	size int
	text string
}

// fields are lists of fields: each alone, all in a row, and others that follow no simple rule.
func fields() [][]field {
	var all []field
	for _, size := range []int{1, 2, 4, 8} {
		for _, v := range []int64{0, 1, 5, most(size) / 2, most(size)/2 + 1, most(size) - 1, most(size)} {
			all = append(all, field{v: v, size: size})
		}
	}
	for _, s := range []string{"", "a", "\x00", "\xff\xff", "ä€", "\x00\x05\x00\x01a", strings.Repeat("x", 256)} {
		all = append(all, field{text: s})
	}
	lists := [][]field{nil, all, {{text: strings.Repeat("y", 65534)}}, {{text: strings.Repeat("y", 65530)}, {text: "ab"}}}
	for _, f := range all {
		lists = append(lists, []field{f})
	}
	seed := uint32(1)
	next := func(n int) int {
		seed = seed*1664525 + 1013904223
		return int(seed>>8) % n
	}
	for range 300 {
		var l []field
		for range next(30) {
			switch size := []int{0, 1, 2, 4, 8}[next(5)]; size {
			case 0:
				l = append(l, field{text: strings.Repeat(string(rune('a'+next(26))), next(70))})
			default:
				l = append(l, field{v: (int64(next(1<<24))<<40 + int64(next(1<<24))<<20 + int64(next(1<<24))) & most(size), size: size})
			}
		}
		lists = append(lists, l)
	}
	return lists
}

// P3.3
func TestWhatWasPackedIsUnpacked(t *testing.T) {
	for _, l := range fields() {
		bytes := 0
		s, err := packed(func(p *pack.Packer) {
			for _, f := range l {
				if bytes += f.size; f.size > 0 {
					p.Num(f.v, f.size)
				} else {
					bytes += 2 + len(f.text)
					p.Text(f.text)
				}
			}
		})
		if len(s) != bytes || err != api.OK {
			t.Fatalf("%v: %d bytes, not %d, %v", l, len(s), bytes, err)
		}
		u := pack.Open(s)
		for i, f := range l {
			if f.size > 0 {
				if v := u.Num(f.size); v != f.v {
					t.Errorf("field %d of %v: %d, not %d", i, l, v, f.v)
				}
				bytes -= f.size
			} else {
				if got := u.Text(len(f.text)); got != f.text {
					t.Errorf("field %d of %v: %q, not %q", i, l, got, f.text)
				}
				bytes -= 2 + len(f.text)
			}
			if u.Left() != bytes {
				t.Errorf("behind field %d of %v: %d left, not %d", i, l, u.Left(), bytes)
			}
		}
		if err := u.End(); err != api.OK {
			t.Errorf("behind %v: %v", l, err)
		}
	}
}
