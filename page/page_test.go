package page_test

import (
	"fmt"
	"math"
	"strings"
	"testing"

	"escheat/api"
	"escheat/page"
)

// P9.2: the chapter's example
func TestExample(t *testing.T) {
	p, _ := page.New(5)
	if err := p.Write(0, "a"); err != api.OK {
		t.Errorf("the first write: %v", err)
	}
	expectIdle(t, "the second one", p, api.ErrWritten, write(p, 0, "b"))
	if s, err := p.Read(0); s != "a" || err != api.OK {
		t.Errorf("%q, %v", s, err)
	}
}

// P9.1: each room that there is; all pages are Empty.
func TestNew(t *testing.T) {
	for room := 1; room <= maxPages; room++ {
		b := made(t, room)
		if room < 4 || room > maxPages-4 || room%512 == 0 {
			b.same()
		}
	}
}

// P9.1
func TestNewOfNoRoom(t *testing.T) {
	for _, room := range append([]int{0, -5, -64, 1 << 33}, noPages...) {
		if room == maxPages {
			continue
		}
		if p, err := page.New(room); p != nil || err != api.ErrArg {
			t.Errorf("New(%d): %v, %v", room, p, err)
		}
	}
}

// P9.1: all calls of nil, and of what New told beside an error
func TestNil(t *testing.T) {
	none, _ := page.New(0)
	for _, p := range []*page.Pages{nil, none} {
		for _, at := range append([]int{0, 1, 2, maxPages - 1}, noPages...) {
			for _, s := range []string{"", "a", long, longer} {
				if err := p.Write(at, s); err != api.ErrArg {
					t.Errorf("Write(%d) of nil: %v", at, err)
				}
			}
			s, err := p.Read(at)
			if filled, trimmed := p.Fill(at), p.Trim(at); s != "" || err != api.ErrArg || filled != api.ErrArg || trimmed != api.ErrArg {
				t.Errorf("of nil, at %d: %q, %v, %v, %v", at, s, err, filled, trimmed)
			}
			if kind, tail, used, edge := p.Kind(at), p.Tail(), p.Used(), p.Edge(); kind != api.Empty || tail != 0 || used != 0 || edge != 0 {
				t.Errorf("of nil, at %d: kind %d, tail %d, used %d, edge %d", at, kind, tail, used, edge)
			}
		}
	}
}

// P9.2: by hand, the first pages, some between and the last ones
func TestWriteFillRead(t *testing.T) {
	b := made(t, 20)
	p := b.p
	for i, at := range []int{0, 1, 2, 7, 100, 2048, maxPages - 2, maxPages - 1} {
		b.write(at, fmt.Sprint("text ", at))
		if s, err := p.Read(at); s != fmt.Sprint("text ", at) || err != api.OK || p.Kind(at) != api.Written || p.Used() != i+1 || p.Tail() != at+1 {
			t.Errorf("%d: %q, %v, %d, %d, %d", at, s, err, p.Kind(at), p.Used(), p.Tail())
		}
		b.same()
	}
	for i, at := range []int{3, 6, 8, 101, 2047, maxPages - 3} {
		b.fill(at)
		if s, err := p.Read(at); s != "" || err != api.ErrJunk || p.Kind(at) != api.Junk || p.Used() != i+9 || p.Tail() != maxPages {
			t.Errorf("%d: %q, %v, %d, %d, %d", at, s, err, p.Kind(at), p.Used(), p.Tail())
		}
		b.same()
	}
}

// P9.2: each page alone is written, or filled, and no other one is.
func TestEachPage(t *testing.T) {
	for at := range maxPages {
		for _, kind := range []int{api.Written, api.Junk} {
			b := made(t, 1)
			if kind == api.Written {
				b.write(at, "a")
			} else {
				b.fill(at)
			}
			for _, by := range []int{-256, -2, -1, 1, 2, 256, maxPages, -maxPages, 1 << 32} {
				if got := b.p.Kind(at + by); got != api.Empty {
					t.Errorf("page %d taken, page %d is %d", at, at+by, got)
				}
			}
			if got := b.p.Kind(at); got != kind || b.p.Tail() != at+1 || b.p.Used() != 1 || b.p.Edge() != 0 {
				t.Errorf("page %d taken: %d, %d, %d, %d", at, got, b.p.Tail(), b.p.Used(), b.p.Edge())
			}
		}
	}
}

// P9.2: numbers that no page has: with room and without, the edge at the beginning, further up and at the end
func TestNoPage(t *testing.T) {
	for _, room := range []int{1, 2} {
		for _, edge := range []int{0, 2, maxPages} {
			b := made(t, room)
			b.trim(edge)
			b.fill(edge)
			for _, at := range noPages {
				for _, s := range []string{"", "a", long, longer} {
					expectIdle(t, fmt.Sprintf("Write(%d) of %d bytes", at, len(s)), b.p, api.ErrArg, write(b.p, at, s))
				}
				expectIdle(t, fmt.Sprintf("Fill(%d)", at), b.p, api.ErrArg, fill(b.p, at))
				expectIdle(t, fmt.Sprintf("Read(%d)", at), b.p, api.ErrArg, read(t, b.p, at))
				if kind := b.p.Kind(at); kind != api.Empty {
					t.Errorf("page %d is %d", at, kind)
				}
			}
		}
	}
}

// P9.2: texts of any bytes
func TestTexts(t *testing.T) {
	texts := []string{"", "\x00", "\x00\x00", "\xff", "a\x00b", "ä€😀", "\xed\xa0\x80", "\n", strings.Repeat("\x00", maxRecord), strings.Repeat("\xff", maxRecord), long}
	all := ""
	for i := range 256 {
		texts = append(texts, string([]byte{byte(i)}), all)
		all += string([]byte{byte(i)})
	}
	b := made(t, maxPages)
	for at, s := range append(texts, all, all+all) {
		if err := b.write(at, s); err != api.OK {
			t.Errorf("%.20q: %v", s, err)
		}
	}
	b.same()
}

// P9.2: texts of each length up to the longest one, on each page
func TestLengths(t *testing.T) {
	b := made(t, maxPages)
	for n := range maxRecord + 1 {
		at := min(n, maxPages-1)
		if n == maxRecord {
			b = made(t, 1)
		}
		if err := b.write(at, long[:n]); err != api.OK {
			t.Errorf("a text of %d bytes: %v", n, err)
		}
		if s, err := b.p.Read(at); s != long[:n] || err != api.OK {
			t.Errorf("a text of %d bytes: %d, %v", n, len(s), err)
		}
	}
}

// P9.2: a text that is too long, on pages of all kinds, with room and without
func TestLong(t *testing.T) {
	for _, room := range []int{3, 2} {
		b := made(t, room)
		b.trim(2)
		b.write(5, "a")
		b.fill(6)
		for _, at := range []int{0, 1, 2, 4, 5, 6, 7, maxPages - 1} {
			for _, s := range []string{longer, longer + "z", long + long, strings.Repeat("\x00", 1<<16), strings.Repeat("z", 1<<16+1)} {
				expectIdle(t, fmt.Sprintf("%d bytes on page %d", len(s), at), b.p, api.ErrLong, write(b.p, at, s))
			}
		}
	}
}

// P9.2: pages of all kinds, with room and without
func TestErrorsInOrder(t *testing.T) {
	for _, room := range []int{3, 4} {
		b := made(t, room)
		p := b.p
		b.write(1, "gone")
		b.trim(3)
		b.write(3, "a")
		b.fill(4)
		b.write(5, "")
		for _, s := range []string{"", "a", "b", "gone", long} {
			for _, at := range []int{0, 1, 2} {
				expectIdle(t, "write on one that is trimmed", p, api.ErrTrimmed, write(p, at, s))
			}
			for _, at := range []int{3, 4, 5} {
				expectIdle(t, "write on one that is taken", p, api.ErrWritten, write(p, at, s))
			}
		}
		for _, at := range []int{0, 1, 2} {
			expectIdle(t, "fill one that is trimmed", p, api.ErrTrimmed, fill(p, at))
			expectIdle(t, "read one that is trimmed", p, api.ErrTrimmed, read(t, p, at))
		}
		expectIdle(t, "fill one that is written", p, api.ErrWritten, fill(p, 3))
		expectIdle(t, "fill one that is written with nothing", p, api.ErrWritten, fill(p, 5))
		expectIdle(t, "fill one that is junk", p, api.OK, fill(p, 4))
		expectIdle(t, "read one that is junk", p, api.ErrJunk, read(t, p, 4))
		for _, at := range []int{6, 7, maxPages - 1} {
			expectIdle(t, "read one that is empty", p, api.ErrUnwrit, read(t, p, at))
			if room == 3 {
				for _, s := range []string{"", "a", long} {
					expectIdle(t, "write without room", p, api.ErrFull, write(p, at, s))
				}
				expectIdle(t, "fill without room", p, api.ErrFull, fill(p, at))
			}
		}
		b.same()
	}
}

// P9.2: just as many as there is room are taken, by writes, by fills and by both, upwards and downwards, with gaps and without.
func TestRoom(t *testing.T) {
	for _, room := range []int{1, 2, 3, 4, 5, 8, 17, 255, 256, 257, maxPages - 1, maxPages} {
		for _, by := range []int{1, -1, 5, -77} {
			for _, fills := range []int{1, 2, 3, maxPages} {
				b := made(t, room)
				for i := range room {
					// An odd step meets each page once.
					at := (i*by + 9) & (maxPages - 1)
					if i%fills == fills-1 {
						b.fill(at)
					} else {
						b.write(at, fmt.Sprint(i))
					}
					if n := b.p.Used(); n != i+1 {
						t.Fatalf("of %d are %d used, not %d", room, n, i+1)
					}
				}
				b.full()
			}
		}
	}
}

// P9.2: a page that is written or junk takes no room a second time.
func TestNoRoomASecondTime(t *testing.T) {
	b := made(t, 3)
	b.fill(9)
	b.write(4, "d")
	for range 10 {
		expectIdle(t, "fill again", b.p, api.OK, fill(b.p, 9))
		expectIdle(t, "write on it", b.p, api.ErrWritten, write(b.p, 9, "x"))
		expectIdle(t, "write again", b.p, api.ErrWritten, write(b.p, 4, "d"))
		expectIdle(t, "fill what is written", b.p, api.ErrWritten, fill(b.p, 4))
	}
	if n := b.p.Used(); n != 2 {
		t.Errorf("%d are used", n)
	}
	if err := b.fill(0); err != api.OK {
		t.Errorf("the third one: %v", err)
	}
	b.full()
}

// P9.2, P9.3: trimming makes room for as many as were taken of what is trimmed.
func TestTrimMakesRoom(t *testing.T) {
	b := made(t, 4)
	for _, at := range []int{2, 9, 11} {
		b.write(at, "w")
	}
	b.fill(5)
	for _, x := range []struct {
		below, used int
		take        []int
	}{
		{2, 4, nil}, {3, 3, []int{20}}, {5, 4, nil}, {6, 3, []int{6}}, {9, 3, []int{4000}}, {10, 3, []int{12}}, {12, 3, []int{13}}, {4000, 1, []int{4095, 4001, 4002}}, {4003, 1, []int{4003, 4005, 4010}}, {maxPages, 0, nil},
	} {
		b.trim(x.below)
		if n := b.p.Used(); n != x.used {
			t.Errorf("behind Trim(%d) %d are used, not %d", x.below, n, x.used)
		}
		for i, at := range x.take {
			if i%2 == 0 {
				b.fill(at)
			} else {
				b.write(at, "behind it")
			}
		}
		b.full()
	}
}

// P9.3: each edge ahead, and what a second Trim makes of it
func TestTrim(t *testing.T) {
	for _, edge := range []int{0, 1, 2, 5, 6, 100, maxPages - 1, maxPages} {
		for _, below := range []int{0, 1, edge - 1, edge, edge + 1, 6, 50, 101, maxPages - 2, maxPages - 1, maxPages, maxPages + 1, -1} {
			b := made(t, 6)
			for _, at := range []int{0, 5, 99, maxPages - 1} {
				b.write(at, "w")
			}
			b.fill(1)
			b.fill(100)
			b.trim(edge)
			b.trim(below)
			want := edge
			if below > edge && below <= maxPages {
				want = below
			}
			if got := b.p.Edge(); got != want {
				t.Errorf("of %d and %d the edge is %d", edge, below, got)
			}
			b.same()
		}
	}
}

// P9.3: a trim at the edge or below it, and one of what is no number of pages, change nothing.
func TestTrimOfNothing(t *testing.T) {
	b := made(t, 4)
	b.write(10, "a")
	b.write(2, "b")
	b.fill(maxPages - 1)
	for _, edge := range []int{0, 1, 7, 10, 12, maxPages - 1, maxPages} {
		b.trim(edge)
		for _, below := range []int{0, 1, 2, 3, edge / 2, edge - 2, edge - 1, edge} {
			if below >= 0 && below <= edge {
				expectIdle(t, fmt.Sprintf("Trim(%d) behind Trim(%d)", below, edge), b.p, api.OK, trim(b.p, below))
			}
		}
		for _, below := range append([]int{math.MinInt + 5, 1<<32 + 20}, noPages...) {
			if below != maxPages {
				expectIdle(t, fmt.Sprintf("Trim(%d) behind Trim(%d)", below, edge), b.p, api.ErrArg, trim(b.p, below))
			}
		}
		b.same()
	}
}
