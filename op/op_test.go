package op_test

import (
	"math/rand"
	"slices"
	"strings"
	"testing"
	"unsafe"

	"escheat/api"
	"escheat/op"
)

// expectGood holds that o has a form and the text s, and that this is its text alone.
func expectGood(t *testing.T, o api.Op, s string) {
	t.Helper()
	if !op.Good(o) {
		t.Errorf("Good(%+.200v) is false", o)
	}
	if got, err := op.Encode(o); got != s || err != api.OK {
		t.Errorf("Encode(%+.200v) = %.200x, %v, not %.200x", o, got, err, s)
	}
	got, err := op.Decode(s)
	if !alike(got, o) || err != api.OK {
		t.Errorf("Decode(%.200x) = %+.200v, %v, not %+.200v", s, got, err, o)
	}
	if len(s) > api.MaxRecord {
		t.Errorf("the text of %+.200v has %d bytes", o, len(s))
	}
}

// expectWrong holds that o has no form, nor a text.
func expectWrong(t *testing.T, o api.Op) {
	t.Helper()
	if op.Good(o) {
		t.Errorf("Good(%+.200v) is true", o)
	}
	if s, err := op.Encode(o); s != "" || err != api.ErrForm {
		t.Errorf("Encode(%+.200v) = %.200x, %v", o, s, err)
	}
}

// expectNone holds that s is no record's text.
func expectNone(t *testing.T, s string) {
	t.Helper()
	if o, err := op.Decode(s); !alike(o, api.Op{}) || o.Moves != nil && len(o.Moves) == 0 || err != api.ErrForm {
		t.Errorf("Decode(%.200x) = %+.200v, %v", s, o, err)
	}
}

// alike tells if a and b are so in all fields, by their words alone.
func alike(a, b api.Op) bool {
	for _, name := range append([]string{"Client", "Seq", "Kind"}, own...) {
		if name != "Moves" && !fieldOf(&a, name).Equal(fieldOf(&b, name)) {
			return false
		}
	}
	return slices.Equal(a.Moves, b.Moves)
}

// expectAsWords holds that o, and what the chapter would lay down for it, are as the words of the chapter say.
func expectAsWords(t *testing.T, o api.Op) {
	t.Helper()
	if hasForm(o) {
		expectGood(t, o, words(o))
	} else {
		expectWrong(t, o)
	}
}

// P6.1: the chapter's example
func TestExample(t *testing.T) {
	expectGood(t, api.Op{Client: 0, Seq: 1, Kind: api.OpMkdir, Path: "/a"}, "\x01\x00\x00\x00\x00\x01\x00\x02\x2f\x61")
}

// P6.1: a record of each kind, byte by byte
func TestEachKind(t *testing.T) {
	const by = "\x05\x01\x02\x03\x04"
	for i, s := range []string{
		"\x01" + by + "\x00\x02/a",
		"\x02" + by + "\x00\x04/a/b",
		"\x03" + by + "\x00\x08/usr/f_1",
		"\x04" + by + "\x00\x04/a/b\x00\x02/c",
		"\x05" + by + "\x00\x02/c",
		"\x06" + by + "\x00\x02/x\x00\x04/y/z",
		"\x07" + by + "\x00\x02/f\x00\x00\x12\x34",
		"\x08" + by + "\x00\x02/g",
		"\x09" + by + "\x00\x00\x01\x02",
		"\x0a" + by + "\x00\x00\x23\x45\x00\x00\x06\x78\x00\x05hello",
		"\x0b" + by + "\x00\x00\x00\x00\x12\x34\x56\x78",
		"\x0c" + by + "\x00\x00\x00\x00\xab\xcd\xef\x01",
		"\x0d" + by + "\x11\x22\x33\x44\x02\x01\x02\x03\x04\x00\x03\x00\x02\x2b\xcd\x00\x00\x00\x05\x00\x00\x00\x05moved",
		"\x0e" + by + "\x00\x05piece\x00\x00\xfe\xdc\x00\x00\x04\x00",
	} {
		o := records()[i]
		expectGood(t, o, s)
		if o.Kind != i+1 || words(o) != s || !hasForm(o) {
			t.Errorf("kind %d: the words are other ones: %x", i+1, words(o))
		}
	}
}

// P6.1
func TestNoKind(t *testing.T) {
	for _, kind := range []int{0, 15, 16, 255, 256, 257, 256 + 14, 1<<16 + 1, 1<<32 + 1, -1, -14, -15, -255, maxInt, minInt, minInt + 1} {
		expectWrong(t, by(api.Op{Kind: kind}))
		for _, o := range records() {
			o.Kind = kind
			expectWrong(t, o)
		}
	}
	for kind := range 256 {
		if kind >= 1 && kind <= 14 {
			continue
		}
		for _, o := range records() {
			expectNone(t, big(int64(kind), 1)+words(o)[1:])
		}
		expectNone(t, big(int64(kind), 1))
		expectNone(t, big(int64(kind), 1)+"\x05\x01\x02\x03\x04")
	}
}

// bound is between which numbers one of a kind's fields may be.
type bound struct {
	o           api.Op
	name        string
	least, most int
}

// bounds are those of all numbers of all kinds, but of moves.
func bounds() []bound {
	r := records()
	at := func(kind int) api.Op { return r[kind-1] }
	image := by(api.Op{Kind: 14, Data: "x", Size: 65536})
	l := []bound{
		{at(7), "Size", 0, 8192},
		{at(9), "Handle", 0, 16383},
		{at(10), "Handle", 0, 16383},
		{at(10), "Off", 0, 8192},
		{at(11), "Tick", 0, 1099511627776},
		{at(12), "Tick", 0, 1099511627776},
		{at(13), "Ino", 1, 2147483647},
		{image, "Size", 1, 65536},
		{image, "Off", 0, 65535},
	}
	for _, o := range r {
		l = append(l, bound{o, "Client", 0, 7}, bound{o, "Seq", 1, 2147483647})
	}
	return l
}

// around are numbers at, just inside and just outside of both bounds, and others that are far off or wrap round.
func around(least, most int) []int {
	l := []int{0, 1, -1, maxInt, maxInt - 1, minInt, minInt + 1, (least + most) / 2}
	for d := range 3 {
		l = append(l, least-d, least+d, most-d, most+d)
	}
	for _, bits := range []int{8, 16, 31, 32, 40, 63} {
		l = append(l, least+1<<bits, most+1<<bits, least-1<<bits, most-1<<bits, 1<<bits, -1<<bits, 1<<bits-1)
	}
	return l
}

// P6.1
func TestNumbersAtTheirBounds(t *testing.T) {
	for _, b := range bounds() {
		for _, v := range around(b.least, b.most) {
			o := b.o
			fieldOf(&o, b.name).SetInt(int64(v))
			if v >= b.least && v <= b.most {
				expectGood(t, o, words(o))
				continue
			}
			expectWrong(t, o)
			// Where a text can hold the number, it is none; else it holds another one.
			if _, ok := recordOf(words(o)); !ok {
				expectNone(t, words(o))
			}
		}
	}
}

// P6.1: numbers that a text holds, but no record
func TestNumbersInTexts(t *testing.T) {
	for _, b := range bounds() {
		for _, v := range []int{b.most + 1, b.least - 1, 255, 128, 1 << 31, 1<<32 - 1, 1<<32 - 2, 1<<31 + 1, 1<<41 - 1, maxInt, minInt, -1} {
			o := b.o
			fieldOf(&o, b.name).SetInt(int64(v))
			if want, ok := recordOf(words(o)); ok {
				expectGood(t, want, words(o))
			} else {
				expectNone(t, words(o))
			}
		}
	}
}

// P6.1: a field that a kind does not have is zero.
func TestFieldsThatAKindDoesNotHave(t *testing.T) {
	moves := [][]api.Move{{{Addr: 1, From: 1, Len: 1, At: 0}}, {{}}, make([]api.Move, 17)}
	for _, o := range records() {
		for _, name := range own {
			if slices.Contains(named[o.Kind], name) {
				continue
			}
			bad := o
			f := fieldOf(&bad, name)
			switch name {
			case "Path", "To", "Data":
				for _, s := range []string{"/a", "/", "x", "\x00", letters(maxData)} {
					f.SetString(s)
					expectWrong(t, bad)
				}
			case "Moves":
				for _, l := range moves {
					bad.Moves = l
					expectWrong(t, bad)
				}
				bad.Moves = []api.Move{}
				expectGood(t, bad, words(o))
			default:
				for _, v := range []int{1, -1, 2, 255, 256, 1 << 32, maxInt, minInt} {
					f.SetInt(int64(v))
					expectWrong(t, bad)
				}
			}
			if !op.Good(o) {
				t.Errorf("Good(%+v) is false", o)
			}
		}
	}
}

// P6.1
func TestPaths(t *testing.T) {
	deep := func(name string, n int) string { return strings.Repeat("/"+name, n) }
	good := []string{"/", "/a", "/a/b", "/0_z", deep("a", 8), deep("abcdefgh", 8)}
	bad := []string{"", "a", "//", "/a/", "/a//b", "/A", "/a.b", "/a\x00", "/ä", "/abcdefghi", deep("a", 9), deep("abcdefgh", 8) + "/", deep("abcdefgh", 7) + "/abcdefghi", deep("a", 1<<15), strings.Repeat("a", 1<<16)}
	for _, o := range records() {
		for _, name := range []string{"Path", "To"} {
			if !slices.Contains(named[o.Kind], name) {
				continue
			}
			for _, p := range good {
				fieldOf(&o, name).SetString(p)
				expectGood(t, o, words(o))
			}
			whole := o
			for _, p := range bad {
				fieldOf(&whole, name).SetString(p)
				expectWrong(t, whole)
				expectNone(t, words(whole))
			}
		}
	}
}

// P6.1
func TestDataOfEachLength(t *testing.T) {
	for _, o := range []api.Op{
		by(api.Op{Kind: 10}),
		by(api.Op{Kind: 10, Handle: 16383, Off: 8192}),
		by(api.Op{Kind: 14, Size: 65536}),
		by(api.Op{Kind: 13, Ino: 1, Moves: []api.Move{{Len: 1}}}),
	} {
		for _, n := range []int{0, 1, 2, 255, 256, maxData - 1, maxData, maxData + 1, maxData + 2, 2 * maxData, 4096, 4097, 65535, 65536, 65536 + 5} {
			o.Data = letters(n)
			if n >= 1 && n <= maxData {
				expectGood(t, o, words(o))
				continue
			}
			expectWrong(t, o)
			if n < 65536 {
				expectNone(t, words(o))
			}
		}
	}
}

// P6.1
func TestMovesOfEachNumber(t *testing.T) {
	for _, n := range []int{0, 1, 2, 15, 16, 17, 18, 32, 255, 256, 257, 256 + 16, 1 << 16} {
		l := make([]api.Move, n)
		for i := range l {
			l[i] = api.Move{Addr: i & 16383, From: i & 1023, Len: 1 + i%3, At: i % 4}
		}
		o := moving(6, l...)
		if n >= 1 && n <= 16 {
			expectGood(t, o, words(o))
			continue
		}
		expectWrong(t, o)
		if n < 256 {
			expectNone(t, words(o))
		}
	}
	o := moving(6)
	o.Moves = []api.Move{}
	expectWrong(t, o)
	o.Data = ""
	expectWrong(t, o)
	expectNone(t, words(o))
}

// moveNumber is one of a move's numbers, by its place.
func moveNumber(m *api.Move, which int) *int {
	return []*int{&m.Addr, &m.From, &m.Len, &m.At}[which]
}

// P6.1: each number of each of some moves, at its bounds
func TestMovesAtTheirBounds(t *testing.T) {
	most := []int{16383, maxData, maxData, maxData - 1}
	least := []int{0, 0, 1, 0}
	for _, n := range []int{1, 2, 16} {
		for at := range n {
			for which := range 4 {
				for _, v := range append(around(least[which], most[which]), 65535, 65536, 32768) {
					l := slices.Repeat([]api.Move{{Addr: 7, From: 8, Len: 1, At: 0}}, n)
					*moveNumber(&l[at], which) = v
					o := moving(maxData, l...)
					if v >= least[which] && v <= most[which] {
						expectGood(t, o, words(o))
						continue
					}
					expectWrong(t, o)
					if v >= 0 && v < 65536 {
						expectNone(t, words(o))
					}
				}
			}
		}
	}
}

// P6.1: where a move ends, and Data does
func TestMovesAtTheDatasEnd(t *testing.T) {
	for _, n := range []int{1, 2, 3, 100, maxData - 1, maxData} {
		for _, size := range []int{1, 2, n / 2, n - 1, n} {
			if size < 1 || size > n {
				continue
			}
			for d := -2; d <= 2; d++ {
				m := api.Move{Addr: 1, From: maxData, Len: size, At: n - size + d}
				for _, o := range []api.Op{moving(n, m), moving(n, api.Move{Len: 1}, m), moving(n, m, api.Move{Len: n})} {
					if d <= 0 && m.At >= 0 {
						expectGood(t, o, words(o))
						continue
					}
					expectWrong(t, o)
					if m.At >= 0 {
						expectNone(t, words(o))
					}
				}
			}
		}
	}
	for _, m := range []api.Move{{Len: maxInt, At: maxInt}, {Len: 1, At: maxInt}, {Len: maxInt, At: 1}, {Len: minInt, At: 1}, {Len: minInt, At: minInt}, {Len: maxInt, At: minInt}, {Len: 4, At: -1}, {Len: 3, At: minInt}, {Len: 0, At: 3}, {Len: -1, At: 3}, {Len: 0, At: 0}} {
		expectWrong(t, moving(3, m))
	}
}

// P6.1: where a piece ends, and the image does
func TestImagesEnd(t *testing.T) {
	for _, size := range []int{1, 2, 5, maxData, maxData + 1, 40000, 65535, 65536} {
		for _, n := range []int{1, 2, 5, maxData - 1, maxData} {
			for d := -2; d <= 2; d++ {
				o := by(api.Op{Kind: 14, Data: letters(n), Size: size, Off: size - n + d})
				if d <= 0 && o.Off >= 0 {
					expectGood(t, o, words(o))
				} else {
					expectWrong(t, o)
					expectNone(t, words(o))
				}
			}
		}
	}
	for _, x := range [][2]int{{maxInt, maxInt}, {maxInt, 0}, {5, maxInt}, {5, minInt}, {minInt, 0}, {minInt, 1}, {minInt, minInt}, {minInt + 1, maxInt}, {minInt + 2, maxInt - 2}, {0, 0}, {0, -1}, {-1, -2}, {65537, 65536}, {65537, 0}} {
		expectWrong(t, by(api.Op{Kind: 14, Data: "ab", Size: x[0], Off: x[1]}))
		expectWrong(t, by(api.Op{Kind: 14, Data: "a", Size: x[0], Off: x[1]}))
	}
}

// P6.1, P6.2: any two of the numbers, and the lengths, at the edges together
func TestPairsOfEdges(t *testing.T) {
	edges := func(name string) []any {
		switch name {
		case "Path", "To":
			return []any{"", "/", "/a/b_9", "/a/", "b"}
		case "Data":
			return []any{"", "x", letters(5), letters(maxData), letters(maxData + 1)}
		case "Tick":
			return []any{int64(-1), int64(0), int64(1) << 40, int64(1)<<40 + 1}
		case "Moves":
			return []any{[]api.Move(nil), []api.Move{}, []api.Move{{Len: 1}}, []api.Move{{Addr: 5, From: 6, Len: 5}, {Len: 1, At: 4}}, slices.Repeat([]api.Move{{Len: 1}}, 16), slices.Repeat([]api.Move{{Len: 1}}, 17), []api.Move{{Len: 1, At: 5}}}
		}
		return []any{-1, 0, 1, 5, 7, 8, 8192, 8193, 16383, 16384, 65532, 65536, 65537, 2147483647, 2147483648}
	}
	names := append([]string{"Client", "Seq"}, own...)
	for _, o := range records() {
		for i, one := range names {
			for _, other := range names[:i] {
				for _, v := range edges(one) {
					for _, w := range edges(other) {
						x := o
						set(&x, one, v)
						set(&x, other, w)
						expectAsWords(t, x)
					}
				}
			}
		}
	}
}

// P6.1: a text that is cut off anywhere, ahead or behind, or goes on behind its end
func TestCutTexts(t *testing.T) {
	for _, o := range append(records(), longest()...) {
		s := words(o)
		for k := range len(s) {
			expectNone(t, s[:k])
			if got, err := op.Decode(s[k+1:]); err == api.OK {
				if want, ok := recordOf(s[k+1:]); !ok || !alike(got, want) {
					t.Errorf("Decode(%.200x) = %+.200v", s[k+1:], got)
				}
			}
		}
		for _, more := range []string{"\x00", "\x01", "\xff", "a", "/", "\x00\x00", s, letters(70000)} {
			expectNone(t, s+more)
		}
	}
	for n := range 30 {
		expectNone(t, strings.Repeat("\x00", n))
		expectNone(t, strings.Repeat("\xff", n))
	}
}

// P6.1, P6.2: each byte of a text as each other byte
func TestSpoiltTexts(t *testing.T) {
	for _, o := range records() {
		s := words(o)
		for at := range len(s) {
			for c := range 256 {
				b := []byte(s)
				b[at] = byte(c)
				expectText(t, string(b))
			}
		}
	}
}

// expectText holds that Decode tells of s what the words of the chapter say.
func expectText(t *testing.T, s string) {
	t.Helper()
	if want, ok := recordOf(s); ok {
		expectGood(t, want, s)
	} else {
		expectNone(t, s)
	}
}

// P6.1: lengths that stand in a text are not those of what follows.
func TestSpoiltLengths(t *testing.T) {
	for _, o := range records() {
		s := words(o)
		for at := 6; at+2 <= len(s); at++ {
			for _, n := range []int{0, 1, 2, 3, 4, 5, 6, 72, 73, maxData, maxData + 1, 4096, 4097, 65535, len(s), len(s) - at, len(s) - at - 1, len(s) - at - 2, len(s) - at - 3} {
				if n >= 0 {
					expectText(t, s[:at]+big(int64(n), 2)+s[at+2:])
				}
			}
		}
	}
}

// P6.1, P6.2: texts that follow no simple rule
func TestAnyTexts(t *testing.T) {
	r := rand.New(rand.NewSource(6))
	all := append(records(), longest()...)
	for range 40000 {
		b := []byte(words(all[r.Intn(len(all))]))
		for range 1 + r.Intn(3) {
			switch i := r.Intn(len(b) + 1); {
			case i == len(b) || r.Intn(4) == 0:
				b = slices.Insert(b, i, byte(r.Intn(256)))
			case r.Intn(3) == 0:
				b = slices.Delete(b, i, i+1)
			default:
				b[i] ^= 1 << r.Intn(8)
			}
			if len(b) == 0 {
				break
			}
		}
		expectText(t, string(b))
	}
}

// longest are the records of each kind that have the longest texts.
func longest() []api.Op {
	p := strings.Repeat("/abcdefgh", 8)
	data := letters(maxData)
	moves := slices.Repeat([]api.Move{{Addr: 16383, From: maxData, Len: 1, At: maxData - 1}}, 16)
	l := []api.Op{
		{Kind: 1, Path: p}, {Kind: 2, Path: p}, {Kind: 3, Path: p}, {Kind: 4, Path: p, To: p}, {Kind: 5, Path: p}, {Kind: 6, Path: p, To: p},
		{Kind: 7, Path: p, Size: 8192}, {Kind: 8, Path: p}, {Kind: 9, Handle: 16383}, {Kind: 10, Handle: 16383, Off: 8192, Data: data},
		{Kind: 11, Tick: 1099511627776}, {Kind: 12, Tick: 1099511627776},
		{Kind: 13, Ino: 2147483647, Moves: moves, Data: data}, {Kind: 14, Data: data, Size: 65536, Off: 65536 - maxData},
	}
	for i := range l {
		l[i].Client, l[i].Seq = 7, 2147483647
	}
	return l
}

// P6.3: and no record of these kinds has a longer text, as all its fields have their most bytes.
func TestLongestTexts(t *testing.T) {
	for i, n := range []int{80, 80, 80, 154, 80, 154, 84, 80, 10, 1040, 14, 14, 1165, 1040} {
		o := longest()[i]
		expectGood(t, o, words(o))
		if s, _ := op.Encode(o); len(s) != n || n > api.MaxRecord {
			t.Errorf("kind %d: %d bytes, not %d", i+1, len(s), n)
		}
	}
}

// set sets the field of o that is so named to v.
func set(o *api.Op, name string, v any) {
	switch v := v.(type) {
	case string:
		fieldOf(o, name).SetString(v)
	case int:
		fieldOf(o, name).SetInt(int64(v))
	case int64:
		fieldOf(o, name).SetInt(v)
	case []api.Move:
		o.Moves = v
	}
}

// P6.1
func TestSame(t *testing.T) {
	expectSame := func(a, b api.Op, want bool) {
		t.Helper()
		if op.Same(a, b) != want || op.Same(b, a) != want {
			t.Errorf("Same(%+.200v, %+.200v) is not %v", a, b, want)
		}
	}
	full := api.Op{Client: 1, Seq: 2, Kind: 3, Path: "/a", To: "/b", Size: 4, Handle: 5, Off: 6, Data: "d", Tick: 7, Ino: 8, Moves: []api.Move{{Addr: 9, From: 10, Len: 11, At: 12}, {Addr: 13, From: 14, Len: 15, At: 16}}}
	all := append(records(), longest()...)
	all = append(all, full, api.Op{}, api.Op{Client: -1, Seq: minInt, Kind: 99, Path: "no path", Tick: -5})
	for i, a := range all {
		for j, b := range all {
			expectSame(a, b, i == j)
		}
		for _, name := range append([]string{"Client", "Seq", "Kind"}, own...) {
			b := a
			switch name {
			case "Path", "To", "Data":
				set(&b, name, fieldOf(&a, name).String()+"x")
				expectSame(a, b, false)
				set(&b, name, fieldOf(&a, name).String()+"\x00")
			case "Moves":
				b.Moves = append(slices.Clone(a.Moves), api.Move{})
			default:
				for _, d := range []int64{1, -1, 1 << 8, 1 << 32, -1 << 63} {
					fieldOf(&b, name).SetInt(fieldOf(&a, name).Int() + d)
					expectSame(a, b, false)
				}
			}
			expectSame(a, b, false)
		}
	}
}

// P6.1
func TestSameMoves(t *testing.T) {
	l := []api.Move{{Addr: 1, From: 2, Len: 3, At: 4}, {Addr: 5, From: 6, Len: 7, At: 8}, {Addr: 9, From: 10, Len: 11, At: 12}}
	for _, x := range []struct {
		a, b []api.Move
		want bool
	}{
		{nil, nil, true},
		{nil, []api.Move{}, true},
		{[]api.Move{}, make([]api.Move, 0, 5), true},
		{nil, []api.Move{{}}, false},
		{l, slices.Clone(l), true},
		{l, l[:2], false},
		{l, l[1:], false},
		{l[:0], nil, true},
		{l, nil, false},
		{l, append(slices.Clone(l), l[2]), false},
		{l, []api.Move{l[1], l[0], l[2]}, false},
		{l[:1], l[1:2], false},
	} {
		if op.Same(api.Op{Moves: x.a}, api.Op{Moves: x.b}) != x.want || op.Same(api.Op{Moves: x.b}, api.Op{Moves: x.a}) != x.want {
			t.Errorf("Same of the moves %v, %v is not %v", x.a, x.b, x.want)
		}
	}
	for i := range l {
		for which := range 4 {
			for _, d := range []int{1, -1, 1 << 16, minInt} {
				other := slices.Clone(l)
				*moveNumber(&other[i], which) += d
				if op.Same(api.Op{Moves: l}, api.Op{Moves: other}) {
					t.Errorf("the moves %v, %v are the same", l, other)
				}
			}
		}
	}
}

// P6.1: what is told is the caller's own.
func TestWhatIsToldIsNew(t *testing.T) {
	for _, o := range records() {
		a, _ := op.Encode(o)
		b, _ := op.Encode(o)
		if a != b || unsafe.StringData(a) == unsafe.StringData(b) {
			t.Errorf("kind %d: two texts share memory, or differ", o.Kind)
		}
		for _, s := range []string{o.Path, o.To, o.Data} {
			if shares(a, s) {
				t.Errorf("kind %d: the text shares memory with the record", o.Kind)
			}
		}
		x, _ := op.Decode(a)
		y, _ := op.Decode(a)
		for _, s := range []string{x.Path, x.To, x.Data} {
			if shares(a, s) || shares(s, y.Path) || shares(s, y.To) || shares(s, y.Data) {
				t.Errorf("kind %d: the record's %q shares memory", o.Kind, s)
			}
		}
		for i := range x.Moves[:cap(x.Moves)] {
			x.Moves[:cap(x.Moves)][i] = api.Move{Addr: -1}
		}
		if !alike(y, o) {
			t.Errorf("%+v: changed with another answer", y)
		}
		if z, err := op.Decode(a); !alike(z, o) || err != api.OK {
			t.Errorf("%+v, %v: changed with an elder answer", z, err)
		}
	}
}

// shares tells if some of s lies where some of in does.
func shares(in, s string) bool {
	if in == "" || s == "" {
		return false
	}
	i, j := uintptr(unsafe.Pointer(unsafe.StringData(in))), uintptr(unsafe.Pointer(unsafe.StringData(s)))
	return i < j+uintptr(len(s)) && j < i+uintptr(len(in))
}

// P6.1: what was handed in is as it was, its spare room too.
func TestWhatIsHandedInIsAsItWas(t *testing.T) {
	room := make([]api.Move, 8)
	for i := range room {
		room[i] = api.Move{Addr: i, From: i, Len: 1, At: i}
	}
	whole := slices.Clone(room)
	for _, n := range []int{0, 1, 3, 8} {
		for _, kind := range []int{13, 14, 1, 0} {
			for _, size := range []int{8, 2} {
				o, p := moving(size, room[:n]...), moving(size, room[:n]...)
				o.Kind, p.Kind = kind, kind
				op.Good(o)
				op.Encode(o)
				op.Same(o, p)
				op.Same(o, api.Op{})
				if !alike(o, p) || !slices.Equal(room, whole) {
					t.Errorf("%d moves, kind %d: %+v, %v", n, kind, o, room)
				}
			}
		}
	}
	for _, o := range records() {
		s := words(o)
		kept := strings.Clone(s)
		op.Decode(s)
		if s != kept {
			t.Errorf("the text %x was changed to %x", kept, s)
		}
	}
}

// P6.1: no answer hangs on what was asked before.
func TestAnswersHangOnNothingElse(t *testing.T) {
	all := records()
	for range 3 {
		for i, o := range all {
			expectGood(t, o, words(o))
			o.Client = 8
			expectWrong(t, o)
			expectNone(t, words(o))
			expectGood(t, all[len(all)-1-i], words(all[len(all)-1-i]))
		}
		slices.Reverse(all)
	}
}
