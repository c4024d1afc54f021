package proj_test

import (
	"fmt"
	"math/rand"
	"slices"
	"strings"
	"testing"

	"escheat/api"
	"escheat/proj"
)

// expectGood holds that p is good, and s its text alone.
func expectGood(t *testing.T, p api.Projection, s string) {
	t.Helper()
	if !proj.Good(p) {
		t.Errorf("Good(%.200v) is false", fmt.Sprint(p))
	}
	if got, err := proj.Encode(p); got != s || err != api.OK {
		t.Errorf("Encode(%v) = %x, %v, not %x", p, got, err, s)
	}
	if got, err := proj.Decode(s); !alike(got, p) || err != api.OK {
		t.Errorf("Decode(%x) = %v, %v, not %v", s, got, err, p)
	}
}

// expectWrong holds that p is not good, and has no text.
func expectWrong(t *testing.T, p api.Projection) {
	t.Helper()
	if proj.Good(p) {
		t.Errorf("Good(%.200v) is true", fmt.Sprint(p))
	}
	if s, err := proj.Encode(p); s != "" || err != api.ErrForm {
		t.Errorf("Encode(%.200v) = %.80x, %v", fmt.Sprint(p), s, err)
	}
}

// expectNone holds that s is the text of no good projection.
func expectNone(t *testing.T, s string) {
	t.Helper()
	if p, err := proj.Decode(s); !alike(p, api.Projection{}) || err != api.ErrForm {
		t.Errorf("Decode(%.80x) = %.200v, %v", s, fmt.Sprint(p), err)
	}
}

// expectAsWords holds that p is told as the words of the chapter say.
func expectAsWords(t *testing.T, p api.Projection) {
	t.Helper()
	if isGood(p) {
		expectGood(t, p, words(p))
	} else {
		expectWrong(t, p)
	}
}

// expectText holds that s is told as the words of the chapter say.
func expectText(t *testing.T, s string) {
	t.Helper()
	if p, ok := projectionOf(s); ok {
		expectGood(t, p, s)
	} else {
		expectNone(t, s)
	}
}

// P7.1: the chapter's example
func TestExample(t *testing.T) {
	p := of(0, []int{0, 1}, []int{2, 3})
	expectNext(t, p, of(1, []int{1}, []int{2, 3, 4}), true)
	expectNext(t, p, of(1, []int{1, 0}, []int{2, 3}), false)
}

// P7.1, P7.2
func TestGoodAndBad(t *testing.T) {
	for _, p := range goods() {
		expectGood(t, p, words(p))
	}
	for _, p := range bads() {
		expectWrong(t, p)
	}
}

// P7.2: texts byte by byte
func TestTexts(t *testing.T) {
	expectGood(t, of(0, []int{0}), "\x00\x00\x00\x00\x01\x01\x00")
	expectGood(t, of(258, []int{5, 6}, []int{7}), "\x00\x00\x01\x02\x02\x02\x05\x06\x01\x07")
	expectGood(t, of(maxEpoch, []int{15}), "\x7f\xff\xff\xff\x01\x01\x0f")
	expectGood(t, of(0x01020304, []int{3, 2, 1}, []int{9}, []int{14, 4}), "\x01\x02\x03\x04\x03\x03\x03\x02\x01\x01\x09\x02\x0e\x04")
	expectGood(t, shaped(4, 4, 4, 4), "\x00\x00\x00\x03\x04\x04\x00\x01\x02\x03\x04\x04\x05\x06\x07\x04\x08\x09\x0a\x0b\x04\x0c\x0d\x0e\x0f")
	expectNone(t, "\x80\x00\x00\x00\x01\x01\x00")
	expectNone(t, "\xff\xff\xff\xff\x01\x01\x00")
	expectNone(t, "\x00\x00\x00\x00\x01\x01\x10")
	expectNone(t, "\x00\x00\x00\x00\x01\x01\xff")
}

// P7.1, P7.2
func TestEpochs(t *testing.T) {
	for _, p := range goods() {
		for _, e := range []int{0, 1, 2, 255, 256, 65535, 65536, 1<<24 - 1, 1 << 24, 1<<31 - 2, 1<<31 - 1} {
			p.Epoch = e
			expectGood(t, p, words(p))
		}
		for _, e := range []int{-1, -2, -256, -1 << 31, -1<<31 - 1, -1 << 32, 1 << 31, 1<<31 + 1, 1<<32 - 1, 1 << 32, 1<<32 + 1, 1 << 33, 1 << 62, maxInt, maxInt - 1, minInt, minInt + 1} {
			p.Epoch = e
			expectWrong(t, p)
		}
		for _, e := range []int{1 << 31, 1<<31 + 1, 1<<32 - 2, 1<<32 - 1} {
			p.Epoch = e
			expectNone(t, words(p))
		}
	}
}

// P7.1, P7.2: how many chains there are, and how many units each of them has
func TestCounts(t *testing.T) {
	for n := range 12 {
		p := shaped(slices.Repeat([]int{1}, n)...)
		if n >= 1 && n <= 4 {
			expectGood(t, p, words(p))
		} else {
			expectWrong(t, p)
			expectNone(t, words(p))
		}
		for at := range min(n, 4) {
			for _, size := range []int{0, 1, 2, 3, 4, 5, 6, 8, 13} {
				lengths := slices.Repeat([]int{1}, min(n, 4))
				lengths[at] = size
				p := shaped(lengths...)
				if size >= 1 && size <= 4 {
					expectGood(t, p, words(p))
				} else {
					expectWrong(t, p)
					expectNone(t, words(p))
				}
			}
		}
	}
	for _, n := range []int{255, 256, 257, 258, 260, 65536, 65537, 1<<16 + 4} {
		expectWrong(t, of(0, counted(0, n)))
		expectWrong(t, of(0, []int{0}, slices.Repeat([]int{1}, n)))
		expectWrong(t, of(0, slices.Repeat([][]int{{1}}, n)...))
	}
}

// P7.1, P7.2: no chains, and chains without units, of each make
func TestNothing(t *testing.T) {
	for _, chains := range [][][]int{nil, {}, make([][]int, 0, 5), {nil}, {{}}, {make([]int, 0, 3)}, {nil, nil}, {{}, {}, {}, {}}, {{0}, nil}, {{0}, {}}, {nil, {0}}, {{}, {0}}, {{0}, {1}, {}, {2}}} {
		for _, e := range []int{0, 1, maxEpoch, -1} {
			expectWrong(t, of(e, chains...))
			expectNone(t, words(of(e, chains...)))
		}
	}
}

// P7.1, P7.2: each number in each place
func TestUnitsOfAProjection(t *testing.T) {
	for _, lengths := range [][]int{{1}, {4}, {1, 1}, {2, 3}, {1, 1, 1, 1}, {3, 4, 1}, {4, 4, 4, 3}} {
		p := shaped(lengths...)
		for _, chain := range p.Chains {
			for k, was := range chain {
				for u := -300; u <= 300; u++ {
					chain[k] = u
					expectAsWords(t, p)
					if u >= 0 && u < 256 {
						expectText(t, words(p))
					}
				}
				for _, u := range []int{1 << 16, 1 << 31, 1 << 32, 1<<32 + was, -1 << 32, 1<<56 + was, maxInt, minInt, minInt + was, was - 256, was + 256, was + 1<<16} {
					chain[k] = u
					expectWrong(t, p)
				}
				chain[k] = was
				expectGood(t, p, words(p))
			}
		}
	}
}

// P7.1, P7.2: any unit of a projection in the place of any other one, in its chain and in another
func TestUnitsTwice(t *testing.T) {
	for _, lengths := range [][]int{{2}, {4}, {1, 1}, {2, 2}, {1, 1, 1, 1}, {4, 4, 4, 4}} {
		p := shaped(lengths...)
		for _, chain := range p.Chains {
			for k, was := range chain {
				for _, u := range counted(0, total(lengths)) {
					chain[k] = u
					if u == was {
						expectGood(t, p, words(p))
					} else {
						expectWrong(t, p)
						expectNone(t, words(p))
					}
					chain[k] = was
				}
			}
		}
	}
}

// P7.1, P7.2: all short ones
func TestShortOnes(t *testing.T) {
	l := lists([]int{-1, 0, 1, 15, 16}, 3)
	good := 0
	for _, a := range l {
		expectAsWords(t, of(0, a))
		for _, b := range l {
			p := of(7, a, b)
			expectAsWords(t, p)
			if isGood(p) {
				good++
			}
		}
	}
	if good == 0 {
		t.Error("none of them is good")
	}
}

// P7.2: a text that is cut off anywhere, ahead or behind, or goes on behind the projection's end
func TestCutTexts(t *testing.T) {
	for _, p := range goods() {
		s := words(p)
		for k := range len(s) {
			expectNone(t, s[:k])
			expectText(t, s[k+1:])
			expectText(t, s[:k]+s[k+1:])
		}
		for _, more := range []string{"\x00", "\x01", "\x05", "\xff", "\x01\x0f", "\x01\x00", "\x00\x00", s, strings.Repeat("\x00", 70000), strings.Repeat("\xff", 70000)} {
			expectNone(t, s+more)
		}
	}
	for n := range 70 {
		for _, c := range []string{"\x00", "\x01", "\x04", "\x7f", "\xff"} {
			expectText(t, strings.Repeat(c, n))
		}
	}
	expectNone(t, strings.Repeat("\x00", 1<<20))
	expectNone(t, strings.Repeat("\xff", 1<<20))
}

// P7.2: counts that are 0, too many, or not those of what follows
func TestSpoiltCounts(t *testing.T) {
	for _, s := range []string{
		"\x00\x00\x00\x00\x00",
		"\x00\x00\x00\x00\x00\x01\x00",
		"\x00\x00\x00\x00\x01\x00",
		"\x00\x00\x00\x00\x01\x00\x01\x00",
		"\x00\x00\x00\x00\x02\x00\x01\x00",
		"\x00\x00\x00\x00\x02\x01\x00\x00",
		"\x00\x00\x00\x00\x02\x01\x00",
		"\x00\x00\x00\x00\x01\x01\x00\x01\x01",
		"\x00\x00\x00\x00\x05\x01\x00\x01\x01\x01\x02\x01\x03\x01\x04",
		"\x00\x00\x00\x00\x04\x01\x00\x01\x01\x01\x02\x01\x03\x01\x04",
		"\x00\x00\x00\x00\x04\x01\x00\x01\x01\x01\x02",
		"\x00\x00\x00\x00\x01\x05\x00\x01\x02\x03\x04",
		"\x00\x00\x00\x00\x01\x04\x00\x01\x02\x03\x04",
		"\x00\x00\x00\x00\x01\x04\x00\x01\x02",
		"\x00\x00\x00\x00\xff" + strings.Repeat("\x01\x00", 255),
		"\x00\x00\x00\x00\xff" + strings.Repeat("\x00", 255),
		"\x00\x00\x00\x00\x01\xff" + strings.Repeat("\x00", 255),
		"\x00\x00\x00\x00\xff" + strings.Repeat("\xff"+strings.Repeat("\x07", 255), 255),
	} {
		expectNone(t, s)
	}
}

// P7.2, P7.3: each byte of a text as each other byte
func TestSpoiltTexts(t *testing.T) {
	for _, p := range goods() {
		for at := range len(words(p)) {
			b := []byte(words(p))
			for c := range 256 {
				b[at] = byte(c)
				expectText(t, string(b))
			}
		}
	}
}

// P7.2: units that stand twice in a text
func TestTwiceInTexts(t *testing.T) {
	for _, s := range []string{
		"\x00\x00\x00\x00\x01\x02\x01\x01",
		"\x00\x00\x00\x00\x01\x04\x05\x01\x02\x05",
		"\x00\x00\x00\x00\x02\x01\x01\x01\x01",
		"\x00\x00\x00\x09\x04\x01\x00\x01\x01\x01\x02\x01\x00",
		"\x00\x00\x00\x09\x03\x02\x00\x0f\x01\x01\x02\x02\x0f",
	} {
		expectNone(t, s)
	}
}

// someGood is a good projection that follows no simple rule.
func someGood(r *rand.Rand) api.Projection {
	p, units := of(r.Intn(1<<31)), r.Perm(16)
	for range 1 + r.Intn(4) {
		n := 1 + r.Intn(4)
		p.Chains = append(p.Chains, slices.Clone(units[:n]))
		units = units[n:]
	}
	return p
}

// P7.1 to P7.3: projections and texts that follow no simple rule
func TestAny(t *testing.T) {
	r := rand.New(rand.NewSource(7))
	for range 20000 {
		p := someGood(r)
		expectGood(t, p, words(p))
		b := []byte(words(p))
		for range 1 + r.Intn(3) {
			switch i := r.Intn(len(b) + 1); {
			case i == len(b) || r.Intn(4) == 0:
				b = slices.Insert(b, i, byte(r.Intn(20)))
			case r.Intn(3) == 0 && len(b) > 1:
				b = slices.Delete(b, i, i+1)
			default:
				b[i] ^= 1 << r.Intn(8)
			}
		}
		expectText(t, string(b))
		chain := p.Chains[r.Intn(len(p.Chains))]
		chain[r.Intn(len(chain))] = r.Intn(18) - 1
		expectAsWords(t, p)
	}
}

// P7.3: Decode of Encode is the projection, Encode of Decode the text.
func TestThereAndBack(t *testing.T) {
	for _, p := range goods() {
		s, err := proj.Encode(p)
		q, e := proj.Decode(s)
		if err != api.OK || e != api.OK || !alike(p, q) {
			t.Errorf("%v went and came back as %v: %v, %v", p, q, err, e)
		}
		if again, err := proj.Encode(q); again != s || err != api.OK {
			t.Errorf("%x went and came back as %x: %v", s, again, err)
		}
	}
}

// anything are projections that are good, and such as are not.
func anything() []api.Projection {
	l := append(goods(), bads()...)
	l = append(l, of(minInt, nil, []int{maxInt, minInt, 0, -1, 1, maxInt}, []int{}, []int{minInt, 16, 272}), of(maxInt, counted(-500, 3000), counted(0, 70000)))
	r := rand.New(rand.NewSource(8))
	for range 300 {
		p := of(int(r.Uint64()))
		for range r.Intn(9) {
			var chain []int
			for range r.Intn(30) {
				chain = append(chain, []int{r.Intn(20) - 2, r.Intn(1 << 9), int(r.Uint64()), r.Intn(4) * 256, r.Intn(5) << 32, minInt + r.Intn(2), maxInt - r.Intn(2)}[r.Intn(7)])
			}
			p.Chains = append(p.Chains, chain)
		}
		l = append(l, p)
	}
	return l
}

// P7.1
func TestUnits(t *testing.T) {
	for _, x := range []struct {
		p    api.Projection
		want []int
	}{
		{api.Projection{}, nil},
		{of(5, nil, []int{}), nil},
		{of(0, []int{0}), []int{0}},
		{of(4, []int{8, 4, 12}, []int{1}, []int{2, 11}), []int{1, 2, 4, 8, 11, 12}},
		{of(-5, []int{9, 3, 9}, nil, []int{-1, 3}), []int{-1, 3, 9}},
		{of(0, []int{maxInt, minInt}, []int{0, maxInt, -1}), []int{minInt, -1, 0, maxInt}},
		{of(0, slices.Repeat([]int{7}, 5000), []int{6, 7}), []int{6, 7}},
		{of(0, []int{256, 0, 16, 1 << 32}, []int{65536}), []int{0, 16, 256, 65536, 1 << 32}},
		{of(0, []int{15, 14, 13, 12}, []int{11, 10, 9, 8}, []int{7, 6, 5, 4}, []int{3, 2, 1, 0}), counted(0, 16)},
	} {
		if l := proj.Units(x.p); !slices.Equal(l, x.want) {
			t.Errorf("Units(%.200v) = %v, not %v", fmt.Sprint(x.p), l, x.want)
		}
	}
	for _, p := range anything() {
		if l := proj.Units(p); !slices.Equal(l, unitsOf(p)) {
			t.Errorf("Units(%.200v) = %.200v", fmt.Sprint(p), fmt.Sprint(l))
		}
	}
}

// P7.1
func TestCopy(t *testing.T) {
	for _, p := range anything() {
		if q := proj.Copy(p); !alike(p, q) {
			t.Errorf("Copy(%.200v) = %.200v", fmt.Sprint(p), fmt.Sprint(q))
		}
	}
	if q := proj.Copy(of(3, nil, []int{5, 5}, nil)); q.Epoch != 3 || len(q.Chains) != 3 || len(q.Chains[0])+len(q.Chains[2]) != 0 || !slices.Equal(q.Chains[1], []int{5, 5}) {
		t.Errorf("a copy is %v", q)
	}
}
