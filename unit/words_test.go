package unit_test

import (
	"math"
	"reflect"
	"strings"
	"testing"

	"escheat/api"
	"escheat/page"
	"escheat/unit"
)

// The words of the chapter, told in another way than the program's: pages beside an epoch, and what becomes of a question, kind by kind.

const (
	maxPages  = 4096
	maxRecord = 4096
)

// strange are whole numbers that no page has and that are no Kind of the unit's.
var strange = []int{
	-1, -2, -5, -maxPages, maxPages, maxPages + 1, 65536 + 1, 1 << 31, 1<<32 + 1, 1<<32 + 3, -1 << 31, -1<<32 + 4, 1<<62 + 5, -1 << 62,
	math.MaxInt, math.MaxInt - 1, math.MinInt, math.MinInt + 1,
}

// own are the kinds of questions that units know; foreign are those of the sequencer and of the layout, and kinds of no one.
var (
	own     = []int{api.AskWrite, api.AskFill, api.AskRead, api.AskTrim, api.AskSeal}
	foreign = append([]int{0, api.AskNext, api.AskTail, api.AskStart, api.AskLayout, api.AskChange, api.AskMark, 12, 13, 255, 256, 257, 260}, strange...)
)

// long is the longest text, longer one byte too many.
var (
	long   = strings.Repeat("x", maxRecord)
	longer = long + "y"
)

// model is a unit by the words.
type model struct {
	down  bool
	epoch int
	pages *page.Pages
}

func (m *model) do(a api.Ask) api.Answer {
	var want api.Answer
	if m.down {
		want.Code = 45
		return want
	}
	sealed := m.epoch > a.Epoch
	if a.Kind == 5 && !sealed {
		m.epoch = a.Epoch
		want.N = m.pages.Tail()
	}
	want.Epoch = m.epoch
	if a.Kind < 1 || a.Kind > 5 {
		want.Code = 1
		return want
	}
	if sealed {
		want.Code = 40
		return want
	}
	var err api.Errno
	if a.Kind == 1 {
		err = m.pages.Write(a.Page, a.Data)
	}
	if a.Kind == 2 {
		err = m.pages.Fill(a.Page)
	}
	if a.Kind == 3 {
		want.Data, err = m.pages.Read(a.Page)
	}
	if a.Kind == 4 {
		err = m.pages.Trim(a.Page)
	}
	want.Code = int(err)
	return want
}

// both is a unit, and the same by the words; what is asked of both comes to the same.
type both struct {
	t testing.TB
	u *unit.Unit
	m *model
}

func made(t testing.TB, room int) both {
	t.Helper()
	u, err := unit.New(room)
	if err != api.OK || u == nil {
		t.Fatalf("New(%d): %v, %v", room, u, err)
	}
	pages, _ := page.New(room)
	return both{t, u, &model{pages: pages}}
}

// do asks both, and answers what the unit told.
func (b both) do(a api.Ask) api.Answer {
	b.t.Helper()
	want, got := b.m.do(a), b.u.Do(a)
	if !reflect.DeepEqual(got, want) {
		b.t.Errorf("%s: %s, not %s", ask(a), told(got), told(want))
	}
	return got
}

func (b both) crash() {
	b.m.down = true
	b.u.Crash()
}

func (b both) start() {
	b.m.down = false
	b.u.Start()
}

// same holds that all that a unit shows comes to the same, and each of its pages.
func (b both) same() {
	b.t.Helper()
	b.near(0)
	if got, want := lookAll(b.u.Pages()), lookAll(b.m.pages); !reflect.DeepEqual(got, want) {
		b.t.Errorf("the pages are others than the words make")
	}
}

// near holds that all that a unit shows comes to the same, but of its pages those near at alone.
func (b both) near(at int) {
	b.t.Helper()
	if down, epoch := b.u.Down(), b.u.Epoch(); down != b.m.down || epoch != b.m.epoch {
		b.t.Errorf("down %v, epoch %d, not %v, %d", down, epoch, b.m.down, b.m.epoch)
	}
	if got, want := look(b.u.Pages(), at-3, at+3), look(b.m.pages, at-3, at+3); !reflect.DeepEqual(got, want) {
		b.t.Errorf("near page %d the pages are others than the words make: %v, not %v", at, got.sums, want.sums)
	}
}

// seen is what pages tell of themselves.
type seen struct {
	kinds []int
	texts []string
	errs  []api.Errno
	sums  [3]int
}

func look(p *page.Pages, from, to int) seen {
	v := seen{sums: [3]int{p.Tail(), p.Used(), p.Edge()}}
	for at := from; at < to; at++ {
		s, err := p.Read(at)
		v.kinds, v.texts, v.errs = append(v.kinds, p.Kind(at)), append(v.texts, s), append(v.errs, err)
	}
	return v
}

func lookAll(p *page.Pages) seen { return look(p, -1, maxPages+1) }

// shown is all that a unit shows without a question.
type shown struct {
	down  bool
	epoch int
	pages seen
}

func show(u *unit.Unit) shown { return shown{u.Down(), u.Epoch(), lookAll(u.Pages())} }

// expectIdle holds that a question is answered so each time that it is asked, and changes nothing.
func expectIdle(t testing.TB, u *unit.Unit, a api.Ask, want api.Answer) {
	t.Helper()
	before := show(u)
	for range 2 {
		expect(t, u, a, want)
		if !reflect.DeepEqual(show(u), before) {
			t.Fatalf("%s: it was changed", ask(a))
		}
	}
}

func expect(t testing.TB, u *unit.Unit, a api.Ask, want api.Answer) {
	t.Helper()
	if got := u.Do(a); !reflect.DeepEqual(got, want) {
		t.Errorf("%s: %s, not %s", ask(a), told(got), told(want))
	}
}

// code is an answer that tells no more than a Code and the unit's epoch.
func code(err api.Errno, epoch int) api.Answer { return api.Answer{Code: int(err), Epoch: epoch} }
