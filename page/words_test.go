package page_test

import (
	"math"
	"reflect"
	"strings"
	"testing"

	"escheat/api"
	"escheat/page"
)

// The words of the chapter, told in another way than the program's: each page has its kind, and all are gone through.

const (
	maxPages  = 4096
	maxRecord = 4096
)

// noPages are whole numbers that no page has.
var noPages = []int{
	-1, -2, -3, -maxPages, 1 - maxPages, maxPages, maxPages + 1, maxPages + 2, 2 * maxPages, 65536, 1 << 31, 1 << 32, 1<<32 + 1, -1 << 31, -1 << 32, 1 << 62, -1 << 62,
	math.MaxInt, math.MaxInt - 1, math.MinInt, math.MinInt + 1,
}

// long is the longest text, longer one byte too many.
var (
	long   = strings.Repeat("x", maxRecord)
	longer = long + "y"
)

// model is pages by the words.
type model struct {
	room  int
	kinds [maxPages]int
	texts [maxPages]string
}

func (m *model) used() int {
	n := 0
	for _, kind := range m.kinds {
		if kind == api.Written || kind == api.Junk {
			n++
		}
	}
	return n
}

func (m *model) edge() int {
	for at, kind := range m.kinds {
		if kind != api.Trimmed {
			return at
		}
	}
	return maxPages
}

func (m *model) tail() int {
	for at := maxPages - 1; at >= 0; at-- {
		if m.kinds[at] != api.Empty {
			return at + 1
		}
	}
	return 0
}

func (m *model) write(at int, s string) api.Errno {
	if at < 0 || at >= maxPages {
		return api.ErrArg
	}
	if len(s) > maxRecord {
		return api.ErrLong
	}
	if m.kinds[at] == api.Trimmed {
		return api.ErrTrimmed
	}
	if m.kinds[at] != api.Empty {
		return api.ErrWritten
	}
	if m.used() == m.room {
		return api.ErrFull
	}
	m.kinds[at], m.texts[at] = api.Written, s
	return api.OK
}

func (m *model) fill(at int) api.Errno {
	if at < 0 || at >= maxPages {
		return api.ErrArg
	}
	if m.kinds[at] == api.Empty && m.used() == m.room {
		return api.ErrFull
	}
	switch m.kinds[at] {
	case api.Trimmed:
		return api.ErrTrimmed
	case api.Written:
		return api.ErrWritten
	}
	m.kinds[at] = api.Junk
	return api.OK
}

func (m *model) read(at int) (string, api.Errno) {
	if at < 0 || at >= maxPages {
		return "", api.ErrArg
	}
	err := map[int]api.Errno{api.Trimmed: api.ErrTrimmed, api.Empty: api.ErrUnwrit, api.Junk: api.ErrJunk, api.Written: api.OK}[m.kinds[at]]
	return m.texts[at], err
}

func (m *model) kind(at int) int {
	if at < 0 || at >= maxPages {
		return api.Empty
	}
	return m.kinds[at]
}

func (m *model) trim(below int) api.Errno {
	if below < 0 || below > maxPages {
		return api.ErrArg
	}
	for at := range below {
		m.kinds[at], m.texts[at] = api.Trimmed, ""
	}
	return api.OK
}

// both is pages, and the same by the words; what is asked of both comes to the same.
type both struct {
	t testing.TB
	p *page.Pages
	m *model
}

func made(t testing.TB, room int) both {
	t.Helper()
	p, err := page.New(room)
	if err != api.OK || p == nil {
		t.Fatalf("New(%d): %v, %v", room, p, err)
	}
	return both{t, p, &model{room: room}}
}

func (b both) write(at int, s string) api.Errno {
	b.t.Helper()
	err, want := b.p.Write(at, s), b.m.write(at, s)
	if err != want {
		b.t.Errorf("Write(%d) of %d bytes: %v, not %v", at, len(s), err, want)
	}
	return err
}

func (b both) fill(at int) api.Errno {
	b.t.Helper()
	err, want := b.p.Fill(at), b.m.fill(at)
	if err != want {
		b.t.Errorf("Fill(%d): %v, not %v", at, err, want)
	}
	return err
}

func (b both) trim(below int) api.Errno {
	b.t.Helper()
	err, want := b.p.Trim(below), b.m.trim(below)
	if err != want {
		b.t.Errorf("Trim(%d): %v, not %v", below, err, want)
	}
	return err
}

// same holds that all that can be asked comes to the same: of each page, of those that are none, and of all together.
func (b both) same() {
	b.t.Helper()
	for at := range maxPages {
		b.page(at)
	}
	for _, at := range noPages {
		b.page(at)
	}
	b.sums()
}

func (b both) page(at int) {
	b.t.Helper()
	if kind := b.p.Kind(at); kind != b.m.kind(at) {
		b.t.Errorf("page %d is %d, not %d", at, kind, b.m.kind(at))
	}
	want, code := b.m.read(at)
	if s, err := b.p.Read(at); s != want || err != code {
		b.t.Errorf("Read(%d): %.20q, %v, not %.20q, %v", at, s, err, want, code)
	}
}

func (b both) sums() {
	b.t.Helper()
	if tail, used, edge := b.p.Tail(), b.p.Used(), b.p.Edge(); tail != b.m.tail() || used != b.m.used() || edge != b.m.edge() {
		b.t.Errorf("tail %d, used %d, edge %d, not %d, %d, %d", tail, used, edge, b.m.tail(), b.m.used(), b.m.edge())
	}
}

// full holds that nothing more is taken, and that each page that is not Empty answers by its own kind.
func (b both) full() {
	b.t.Helper()
	for at, kind := range b.m.kinds {
		wrote, filled := api.ErrFull, api.ErrFull
		switch kind {
		case api.Trimmed:
			wrote, filled = api.ErrTrimmed, api.ErrTrimmed
		case api.Written:
			wrote, filled = api.ErrWritten, api.ErrWritten
		case api.Junk:
			wrote, filled = api.ErrWritten, api.OK
		}
		if w, f := b.p.Write(at, "more"), b.p.Fill(at); w != wrote || f != filled {
			b.t.Fatalf("page %d of kind %d: %v, %v", at, kind, w, f)
		}
	}
	b.same()
}

// seen is all that pages tell.
type seen struct {
	kinds, sums []int
	texts       []string
	errs        []api.Errno
}

func look(p *page.Pages) seen {
	v := seen{sums: []int{p.Tail(), p.Used(), p.Edge()}}
	for at := -2; at <= maxPages+1; at++ {
		s, err := p.Read(at)
		v.kinds, v.texts, v.errs = append(v.kinds, p.Kind(at)), append(v.texts, s), append(v.errs, err)
	}
	return v
}

// expectIdle holds that do answers want each time that it is called, and changes nothing.
func expectIdle(t testing.TB, what string, p *page.Pages, want api.Errno, do func() api.Errno) {
	t.Helper()
	before := look(p)
	for range 2 {
		if err := do(); err != want {
			t.Errorf("%s: %v, not %v", what, err, want)
		}
		if !reflect.DeepEqual(look(p), before) {
			t.Fatalf("%s: it was changed", what)
		}
	}
}

func write(p *page.Pages, at int, s string) func() api.Errno {
	return func() api.Errno { return p.Write(at, s) }
}

func fill(p *page.Pages, at int) func() api.Errno {
	return func() api.Errno { return p.Fill(at) }
}

func trim(p *page.Pages, below int) func() api.Errno {
	return func() api.Errno { return p.Trim(below) }
}

// read is Read where it comes to an error, beside which no text is told.
func read(t testing.TB, p *page.Pages, at int) func() api.Errno {
	return func() api.Errno {
		s, err := p.Read(at)
		if s != "" {
			t.Errorf("Read(%d): %v and %.20q", at, err, s)
		}
		return err
	}
}
