package page_test

import (
	"fmt"
	"math"
	"math/rand"
	"strings"
	"testing"
	"unsafe"

	"escheat/api"
	"escheat/page"
)

// P9.3: by hand: writes, fills and trims in any order, with gaps, and an edge above all that is written
func TestSums(t *testing.T) {
	b := made(t, 6)
	for i, x := range []struct {
		kind, at         int
		tail, used, edge int
	}{
		{api.Trimmed, 0, 0, 0, 0},
		{api.Written, 6, 7, 1, 0},
		{api.Junk, 2, 7, 2, 0},
		{api.Trimmed, 3, 7, 1, 3},
		{api.Junk, 9, 10, 2, 3},
		{api.Written, 3, 10, 3, 3},
		{api.Trimmed, 7, 10, 1, 7},
		{api.Trimmed, 9, 10, 1, 9},
		{api.Trimmed, 10, 10, 0, 10},
		{api.Trimmed, 15, 15, 0, 15},
		{api.Trimmed, 12, 15, 0, 15},
		{api.Written, 15, 16, 1, 15},
		{api.Junk, 4095, 4096, 2, 15},
		{api.Written, 4000, 4096, 3, 15},
		{api.Trimmed, 4095, 4096, 1, 4095},
		{api.Trimmed, 4096, 4096, 0, 4096},
	} {
		switch x.kind {
		case api.Trimmed:
			b.trim(x.at)
		case api.Junk:
			b.fill(x.at)
		case api.Written:
			b.write(x.at, "a")
		}
		if tail, used, edge := b.p.Tail(), b.p.Used(), b.p.Edge(); tail != x.tail || used != x.used || edge != x.edge {
			t.Errorf("%d: tail %d, used %d, edge %d", i, tail, used, edge)
		}
		b.same()
	}
}

// anyPage is a page, mostly one near the edge or near an end, at times none.
func anyPage(r *rand.Rand, edge int) int {
	switch r.Intn(12) {
	case 0:
		return noPages[r.Intn(len(noPages))]
	case 1:
		return r.Intn(maxPages)
	case 2:
		return maxPages - 1 - r.Intn(6)
	case 3:
		return int(r.Uint64())
	case 4, 5, 6:
		return edge - 2 + r.Intn(8)
	}
	return r.Intn(14)
}

// do does one of all calls to both, and holds that Kind and Read of that page and all sums come to the same behind it.
func (b both) do(r *rand.Rand) {
	b.t.Helper()
	at := anyPage(r, b.m.edge())
	switch r.Intn(9) {
	case 0, 1, 2:
		b.write(at, []string{"", "a", "b", long, longer, fmt.Sprint(r.Intn(1000))}[r.Intn(6)])
	case 3, 4:
		b.fill(at)
	case 5:
		if r.Intn(3) == 0 {
			b.trim(at)
		} else {
			b.trim(b.m.edge() + r.Intn(4) - 1)
		}
	}
	b.page(at)
	b.sums()
}

// P9.1 to P9.4: calls that follow no simple rule, each held against the words
func TestAny(t *testing.T) {
	r := rand.New(rand.NewSource(9))
	for round := range 160 {
		b := made(t, []int{1, 2, 3, 5, 8, 13, 100, maxPages}[round%8])
		for range 300 {
			b.do(r)
		}
		b.same()
	}
}

// P9.4: what is written stays as it is, whatever is asked behind it, till it is trimmed; what is trimmed stays trimmed.
func TestWrittenStays(t *testing.T) {
	r := rand.New(rand.NewSource(94))
	for round := range 100 {
		p, _ := page.New([]int{3, 7, 40, maxPages}[round%4])
		wrote, edge := map[int]string{}, 0
		for i := range 200 {
			at, s := r.Intn(20)+edge/2, fmt.Sprint("text ", i)
			if p.Write(at, s) == api.OK {
				wrote[at] = s
			}
			p.Fill(r.Intn(20) + edge/2)
			if r.Intn(8) == 0 {
				below := r.Intn(edge + 3)
				p.Trim(below)
				edge = max(edge, below)
			}
			p.Write(anyPage(r, edge), longer)
			p.Trim(noPages[0])
			expectStays(t, p, wrote, edge)
		}
	}
}

func expectStays(t *testing.T, p *page.Pages, wrote map[int]string, edge int) {
	t.Helper()
	for at, want := range wrote {
		s, err := p.Read(at)
		if at >= edge && (s != want || err != api.OK || p.Kind(at) != api.Written) {
			t.Fatalf("page %d was written with %q, and is %q, %v, %d", at, want, s, err, p.Kind(at))
		}
	}
	for at := range edge {
		if s, err := p.Read(at); s != "" || err != api.ErrTrimmed || p.Kind(at) != api.Trimmed {
			t.Fatalf("page %d was trimmed, and is %q, %v, %d", at, s, err, p.Kind(at))
		}
	}
}

// P9.1: two that were made apart know nothing of each other, whatever their room.
func TestApart(t *testing.T) {
	r := rand.New(rand.NewSource(91))
	for _, room := range []int{1, 4, 50} {
		one, other, third := made(t, room), made(t, 4), made(t, 4)
		for range 400 {
			one.do(r)
			other.do(r)
		}
		one.same()
		other.same()
		third.same()
		one.trim(maxPages)
		other.same()
		third.fill(0)
		one.same()
		last := made(t, room)
		last.same()
		third.same()
	}
}

// P9.1: asking changes nothing.
func TestAsking(t *testing.T) {
	b := made(t, 5)
	b.write(4, "d")
	b.fill(6)
	b.trim(3)
	for range 3 {
		b.same()
		for _, at := range append([]int{0, 2, 3, 4, 5, 6, 7, maxPages - 1}, noPages...) {
			expectIdle(t, fmt.Sprintf("Read(%d)", at), b.p, b.m.readErr(at), func() api.Errno { _, err := b.p.Read(at); return err })
			expectIdle(t, fmt.Sprintf("Kind(%d)", at), b.p, api.OK, func() api.Errno { b.p.Kind(at); return api.OK })
		}
	}
}

func (m *model) readErr(at int) api.Errno {
	_, err := m.read(at)
	return err
}

// P9.2: a text that is told shares no memory with what was handed in, nor with what was told before.
func TestTextIsNew(t *testing.T) {
	for _, s := range []string{"a", "text", long, strings.Repeat("\x00", 300)} {
		p, _ := page.New(3)
		p.Write(1, s)
		p.Write(2, s)
		one, _ := p.Read(1)
		again, _ := p.Read(1)
		other, _ := p.Read(2)
		for i, pair := range [][2]string{{s, one}, {s, again}, {s, other}, {one, again}, {one, other}} {
			if pair[0] != pair[1] || unsafe.StringData(pair[0]) == unsafe.StringData(pair[1]) {
				t.Errorf("%d: %.20q and %.20q are one memory", i, pair[0], pair[1])
			}
		}
	}
}

// P9.4: not even a change of the memory of what was handed in, or of what was told, is seen.
func TestMemoryApart(t *testing.T) {
	p, _ := page.New(1)
	bytes := []byte("hello")
	p.Write(0, unsafe.String(&bytes[0], len(bytes)))
	copy(bytes, "later")
	told, _ := p.Read(0)
	if told != "hello" {
		t.Errorf("%q", told)
	}
	copy(unsafe.Slice(unsafe.StringData(told), len(told)), "never")
	if s, err := p.Read(0); s != "hello" || err != api.OK {
		t.Errorf("%q, %v", s, err)
	}
}

// P9.1 to P9.3: any whole number in each place
func TestAnyNumber(t *testing.T) {
	r := rand.New(rand.NewSource(93))
	for range 20000 {
		v := int(r.Uint64()) >> r.Intn(64)
		p, err := page.New(v)
		if is := 1 <= v && v <= maxPages; is != (err == api.OK) || is != (p != nil) {
			t.Fatalf("New(%d): %v, %v", v, p, err)
		}
		b := made(t, 1)
		b.write(v, "a")
		b.fill(v)
		b.page(v)
		b.trim(v)
		b.page(v)
		for _, near := range []int{v - 1, v + 1, -v, v & math.MaxUint16, v & (maxPages - 1)} {
			b.page(near)
		}
	}
}
