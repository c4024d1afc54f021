package unit_test

import (
	"fmt"
	"math"
	"strings"
	"testing"

	"escheat/api"
	"escheat/page"
	"escheat/unit"
)

func ask(a api.Ask) string {
	return fmt.Sprintf("kind %d of epoch %d on page %d with %d bytes", a.Kind, a.Epoch, a.Page, len(a.Data))
}

func told(a api.Answer) string {
	a.Data = fmt.Sprintf("%.20s", a.Data)
	return fmt.Sprintf("%+v", a)
}

// P10.2: the chapter's example
func TestExample(t *testing.T) {
	u, _ := unit.New(5)
	expect(t, u, api.Ask{Kind: api.AskSeal, Epoch: 3}, api.Answer{Epoch: 3})
	expectIdle(t, u, api.Ask{Kind: api.AskWrite, Epoch: 2, Data: "a"}, code(api.ErrSealed, 3))
}

// P10.1: it is up, in epoch 0, all of its pages are empty, and so many may be taken.
func TestNew(t *testing.T) {
	for _, room := range []int{1, 2, 3, 10, 255, 256, maxPages - 1, maxPages} {
		b := made(t, room)
		if b.u.Down() || b.u.Epoch() != 0 || b.u.Pages() == nil || b.u.Pages().Used() != 0 {
			t.Errorf("New(%d): down %v, epoch %d", room, b.u.Down(), b.u.Epoch())
		}
		b.same()
		for at := range room {
			if a := b.do(api.Ask{Kind: []int{api.AskWrite, api.AskFill}[at%2], Page: at, Data: "a"}); a.Code != int(api.OK) {
				t.Fatalf("room %d, page %d: %s", room, at, told(a))
			}
		}
		want := api.ErrFull
		if room == maxPages {
			want = api.ErrArg
		}
		expectIdle(t, b.u, api.Ask{Kind: api.AskWrite, Page: room, Data: "a"}, code(want, 0))
		expectIdle(t, b.u, api.Ask{Kind: api.AskFill, Page: room}, code(want, 0))
		b.same()
	}
}

// P10.1: page.New's error
func TestNewOfNoRoom(t *testing.T) {
	for _, room := range append([]int{0, -64}, strange...) {
		if room == maxPages {
			continue
		}
		_, want := page.New(room)
		if u, err := unit.New(room); u != nil || err != api.ErrArg || err != want {
			t.Errorf("New(%d): %v, %v", room, u, err)
		}
	}
}

// P10.1: all calls of nil, and of what New told beside an error
func TestNil(t *testing.T) {
	none, _ := unit.New(0)
	for _, u := range []*unit.Unit{nil, none} {
		for range 2 {
			for _, kind := range append(foreign, own...) {
				for _, n := range append([]int{0, 1, maxPages - 1}, strange...) {
					expect(t, u, api.Ask{Kind: kind, Epoch: n, Page: n, Unit: n, Data: "a"}, api.Answer{Code: int(api.ErrArg)})
				}
			}
			for _, call := range []func(*unit.Unit){(*unit.Unit).Crash, (*unit.Unit).Start, (*unit.Unit).Start, (*unit.Unit).Crash, (*unit.Unit).Crash} {
				call(u)
				if !u.Down() || u.Epoch() != 0 || u.Pages() != nil {
					t.Errorf("of nil: %v, %d, %v", u.Down(), u.Epoch(), u.Pages())
				}
			}
		}
	}
}

// P10.1: Pages is itself: what is done there and what is asked of the unit is one, whether that is up or down.
func TestPagesItself(t *testing.T) {
	u, _ := unit.New(4)
	p := u.Pages()
	expect(t, u, api.Ask{Kind: api.AskWrite, Page: 1, Data: "a"}, code(api.OK, 0))
	if s, err := p.Read(1); s != "a" || err != api.OK {
		t.Errorf("%q, %v", s, err)
	}
	u.Crash()
	p.Write(2, "b")
	p.Fill(7)
	u.Start()
	expect(t, u, api.Ask{Kind: api.AskRead, Page: 2}, api.Answer{Data: "b"})
	expect(t, u, api.Ask{Kind: api.AskSeal, Epoch: 4}, api.Answer{N: 8, Epoch: 4})
	expect(t, u, api.Ask{Kind: api.AskTrim, Epoch: 4, Page: 2}, code(api.OK, 4))
	if p.Edge() != 2 || p.Used() != 2 || u.Pages() != p {
		t.Errorf("edge %d, used %d", p.Edge(), p.Used())
	}
}

// P10.1: Crash and Start, each once, twice and in turn
func TestCrashStart(t *testing.T) {
	for _, steps := range []string{"", "c", "s", "cc", "cs", "sc", "ss", "ccs", "ccss", "cscs", "scsc", "sscc", "ccscss"} {
		b := made(t, 3)
		b.do(api.Ask{Kind: api.AskWrite, Page: 2, Data: "a"})
		b.do(api.Ask{Kind: api.AskFill, Page: 1})
		b.do(api.Ask{Kind: api.AskTrim, Page: 1})
		b.do(api.Ask{Kind: api.AskSeal, Epoch: 7})
		p := b.u.Pages()
		for _, step := range steps {
			if step == 'c' {
				b.crash()
			} else {
				b.start()
			}
			if b.u.Down() != (step == 'c') || b.u.Epoch() != 7 || b.u.Pages() != p {
				t.Errorf("%s: down %v, epoch %d", steps, b.u.Down(), b.u.Epoch())
			}
			b.do(api.Ask{Kind: api.AskRead, Epoch: 7, Page: 2})
			b.same()
		}
	}
}

// P10.2: a unit that is down answers nothing else, whatever the question, and tells no epoch.
func TestDown(t *testing.T) {
	for _, epoch := range []int{0, 5} {
		u, _ := unit.New(2)
		u.Do(api.Ask{Kind: api.AskWrite, Page: 3, Data: "a"})
		u.Do(api.Ask{Kind: api.AskSeal, Epoch: epoch})
		u.Crash()
		for _, kind := range append(foreign, own...) {
			for _, asks := range []int{epoch, epoch - 1, epoch + 1, math.MinInt, math.MaxInt} {
				for _, at := range []int{3, 4, -1, maxPages} {
					expect(t, u, api.Ask{Kind: kind, Epoch: asks, Page: at, Data: longer}, api.Answer{Code: int(api.ErrDown)})
				}
			}
			expectIdle(t, u, api.Ask{Kind: kind, Epoch: epoch + 1, Page: 4, Data: "b"}, api.Answer{Code: int(api.ErrDown)})
		}
		u.Start()
		expect(t, u, api.Ask{Kind: api.AskRead, Epoch: epoch, Page: 3}, api.Answer{Data: "a", Epoch: epoch})
		expect(t, u, api.Ask{Kind: api.AskWrite, Epoch: epoch, Page: 4, Data: "b"}, code(api.OK, epoch))
	}
}

// P10.2: kinds that are not the unit's, of epochs below, at and above its own
func TestForeignKinds(t *testing.T) {
	u, _ := unit.New(2)
	for _, epoch := range []int{0, 3, math.MaxInt} {
		u.Do(api.Ask{Kind: api.AskSeal, Epoch: epoch})
		for _, kind := range foreign {
			for _, asks := range append([]int{0, 1, epoch - 1, epoch, epoch + 1}, strange...) {
				expect(t, u, api.Ask{Kind: kind, Epoch: asks, Page: 1, Data: "a"}, code(api.ErrArg, epoch))
			}
			expectIdle(t, u, api.Ask{Kind: kind, Epoch: epoch, Data: "a", N: 4, Size: 5}, code(api.ErrArg, epoch))
		}
	}
}

// P10.2: each kind of question, of epochs about the unit's own
func TestEpochs(t *testing.T) {
	for _, own := range []int{0, 1, 3, 255, 256, 1 << 31, 1 << 40, math.MaxInt - 1, math.MaxInt} {
		for _, asks := range append([]int{0, 1, 2, 3, 4, own - 1, own, own / 2}, strange...) {
			b := made(t, 9)
			b.do(api.Ask{Kind: api.AskWrite, Page: 4, Data: "a"})
			b.do(api.Ask{Kind: api.AskSeal, Epoch: own})
			for _, a := range []api.Ask{
				{Kind: api.AskRead, Epoch: asks, Page: 4},
				{Kind: api.AskWrite, Epoch: asks, Page: 5, Data: "b"},
				{Kind: api.AskFill, Epoch: asks, Page: 6},
				{Kind: api.AskTrim, Epoch: asks, Page: 4},
			} {
				want := code(api.OK, own)
				if asks < own {
					want.Code = int(api.ErrSealed)
				} else if a.Kind == api.AskRead {
					want.Data = "a"
				}
				expect(t, b.u, a, want)
				b.m.do(a)
			}
			b.near(5)
			b.do(api.Ask{Kind: api.AskSeal, Epoch: asks})
			if b.u.Epoch() != max(own, asks) {
				t.Errorf("sealed by %d and %d its epoch is %d", own, asks, b.u.Epoch())
			}
			b.near(5)
		}
	}
}

// P10.2: what was not sealed yet is in epoch 0, which none below it may ask.
func TestUnsealed(t *testing.T) {
	u, _ := unit.New(3)
	for _, epoch := range []int{-1, -2, math.MinInt} {
		for _, kind := range own {
			expectIdle(t, u, api.Ask{Kind: kind, Epoch: epoch, Page: 2, Data: "a"}, code(api.ErrSealed, 0))
		}
	}
	for i, epoch := range []int{0, 1, math.MaxInt} {
		expect(t, u, api.Ask{Kind: api.AskWrite, Epoch: epoch, Page: i, Data: "a"}, code(api.OK, 0))
	}
}

// P10.2: the same epoch once more, a higher one, a lower one; N behind writes, fills and trims with gaps
func TestSeal(t *testing.T) {
	u, _ := unit.New(6)
	for i, x := range []struct {
		kind, epoch, page int
		want              api.Answer
	}{
		{api.AskSeal, 0, 0, api.Answer{}},
		{api.AskWrite, 0, 2, api.Answer{}},
		{api.AskSeal, 0, 0, api.Answer{N: 3}},
		{api.AskSeal, 0, 9, api.Answer{N: 3}},
		{api.AskFill, 0, 7, api.Answer{}},
		{api.AskSeal, 2, 0, api.Answer{N: 8, Epoch: 2}},
		{api.AskSeal, 1, 0, code(api.ErrSealed, 2)},
		{api.AskSeal, 2, 0, api.Answer{N: 8, Epoch: 2}},
		{api.AskTrim, 2, 5, code(api.OK, 2)},
		{api.AskSeal, 3, 0, api.Answer{N: 8, Epoch: 3}},
		{api.AskTrim, 3, 9, code(api.OK, 3)},
		{api.AskSeal, 3, 0, api.Answer{N: 9, Epoch: 3}},
		{api.AskWrite, 3, 4095, code(api.OK, 3)},
		{api.AskSeal, 10, -4, api.Answer{N: 4096, Epoch: 10}},
		{api.AskSeal, 9, 0, code(api.ErrSealed, 10)},
		{api.AskSeal, -1, 0, code(api.ErrSealed, 10)},
		{api.AskSeal, math.MinInt, 0, code(api.ErrSealed, 10)},
		{api.AskTrim, 10, 4096, code(api.OK, 10)},
		{api.AskSeal, math.MaxInt, 4096, api.Answer{N: 4096, Epoch: math.MaxInt}},
		{api.AskSeal, math.MaxInt, 0, api.Answer{N: 4096, Epoch: math.MaxInt}},
		{api.AskSeal, math.MaxInt - 1, 0, code(api.ErrSealed, math.MaxInt)},
	} {
		got := u.Do(api.Ask{Kind: x.kind, Epoch: x.epoch, Page: x.page, Data: "a"})
		if told(got) != told(x.want) || u.Epoch() != x.want.Epoch {
			t.Errorf("%d: %s, not %s", i, told(got), told(x.want))
		}
	}
}

// P10.2: each Code of each kind; all but OK change nothing.
func TestCodes(t *testing.T) {
	for _, epoch := range []int{0, 6} {
		u, _ := unit.New(3)
		for _, a := range []api.Ask{
			{Kind: api.AskWrite, Page: 1, Data: "gone"}, {Kind: api.AskTrim, Page: 2}, {Kind: api.AskWrite, Page: 3, Data: "a"}, {Kind: api.AskWrite, Page: 4}, {Kind: api.AskSeal, Epoch: epoch},
		} {
			u.Do(a)
		}
		do := func(kind, at int, s string, want api.Errno) {
			t.Helper()
			expectIdle(t, u, api.Ask{Kind: kind, Epoch: epoch, Page: at, Data: s}, code(want, epoch))
		}
		expect(t, u, api.Ask{Kind: api.AskFill, Epoch: epoch, Page: 5}, code(api.OK, epoch))
		do(api.AskFill, 5, "", api.OK)
		expectIdle(t, u, api.Ask{Kind: api.AskRead, Epoch: epoch, Page: 3}, api.Answer{Data: "a", Epoch: epoch})
		do(api.AskRead, 4, "", api.OK)
		do(api.AskRead, 5, "", api.ErrJunk)
		do(api.AskRead, 6, "", api.ErrUnwrit)
		for _, at := range []int{0, 1} {
			do(api.AskRead, at, "", api.ErrTrimmed)
			do(api.AskWrite, at, "b", api.ErrTrimmed)
			do(api.AskWrite, at, longer, api.ErrLong)
			do(api.AskFill, at, "", api.ErrTrimmed)
		}
		for _, at := range []int{3, 4, 5} {
			do(api.AskWrite, at, "b", api.ErrWritten)
			do(api.AskWrite, at, longer, api.ErrLong)
		}
		do(api.AskFill, 3, "", api.ErrWritten)
		do(api.AskFill, 4, "", api.ErrWritten)
		for _, at := range []int{2, 6, maxPages - 1} {
			do(api.AskWrite, at, "", api.ErrFull)
			do(api.AskWrite, at, long, api.ErrFull)
			do(api.AskWrite, at, longer, api.ErrLong)
			do(api.AskFill, at, longer, api.ErrFull)
		}
		for _, below := range []int{0, 1, 2} {
			do(api.AskTrim, below, "", api.OK)
		}
		for _, at := range strange {
			do(api.AskWrite, at, longer, api.ErrArg)
			do(api.AskFill, at, "", api.ErrArg)
			do(api.AskRead, at, "", api.ErrArg)
			if at != maxPages {
				do(api.AskTrim, at, "", api.ErrArg)
			}
		}
		expect(t, u, api.Ask{Kind: api.AskTrim, Epoch: epoch, Page: maxPages}, code(api.OK, epoch))
		do(api.AskRead, 3, "", api.ErrTrimmed)
	}
}

// P10.2: sealed comes ahead of all that the pages say.
func TestSealedAhead(t *testing.T) {
	u, _ := unit.New(2)
	for _, a := range []api.Ask{
		{Kind: api.AskTrim, Page: 2}, {Kind: api.AskWrite, Page: 3, Data: "a"}, {Kind: api.AskFill, Page: 4}, {Kind: api.AskSeal, Epoch: 5},
	} {
		u.Do(a)
	}
	for _, kind := range own {
		for _, at := range append([]int{0, 1, 2, 3, 4, 5}, strange...) {
			for _, s := range []string{"", "a", longer} {
				for _, epoch := range []int{4, 0, -1, math.MinInt} {
					expect(t, u, api.Ask{Kind: kind, Epoch: epoch, Page: at, Data: s}, code(api.ErrSealed, 5))
				}
			}
		}
		expectIdle(t, u, api.Ask{Kind: kind, Epoch: 4, Page: 6, Data: "b"}, code(api.ErrSealed, 5))
	}
}

// P10.2: texts of any bytes and of each length near the greatest
func TestTexts(t *testing.T) {
	texts := []string{"", "\x00", "\xff", "a\x00b", "ä€😀", "\xed\xa0\x80", "\n", long[1:], long, strings.Repeat("\x00", maxRecord), strings.Repeat("\xff", maxRecord)}
	for i := range 256 {
		texts = append(texts, string([]byte{byte(i)}))
	}
	u, _ := unit.New(maxPages)
	for at, s := range texts {
		expect(t, u, api.Ask{Kind: api.AskWrite, Page: at, Data: s}, code(api.OK, 0))
		expect(t, u, api.Ask{Kind: api.AskRead, Page: at}, api.Answer{Data: s})
	}
	for _, s := range []string{longer, longer + "z", long + long} {
		expectIdle(t, u, api.Ask{Kind: api.AskWrite, Page: maxPages - 1, Data: s}, code(api.ErrLong, 0))
	}
	expect(t, u, api.Ask{Kind: api.AskSeal, Epoch: 1, Data: longer}, api.Answer{N: len(texts), Epoch: 1})
	expect(t, u, api.Ask{Kind: api.AskRead, Epoch: 1, Page: len(texts) - 1, Data: longer}, api.Answer{Data: "\xff", Epoch: 1})
}

// P10.3: what was written, filled and trimmed outlives crashes, and so does the seal.
func TestOutlives(t *testing.T) {
	b := made(t, 100)
	for i := range 60 {
		b.do(api.Ask{Kind: api.AskSeal, Epoch: i / 4})
		b.do(api.Ask{Kind: api.AskWrite, Epoch: i, Page: 2 * i, Data: fmt.Sprint("text ", i)})
		b.do(api.Ask{Kind: api.AskFill, Epoch: i, Page: 2*i + 1})
		b.do(api.Ask{Kind: api.AskTrim, Epoch: i, Page: i})
		b.crash()
		for _, kind := range own {
			b.do(api.Ask{Kind: kind, Epoch: i + 9, Page: 2*i + 3, Data: "never"})
		}
		b.start()
		for at := i; at <= 2*i; at += 2 - i%2 {
			a := b.do(api.Ask{Kind: api.AskRead, Epoch: i, Page: at})
			if at%2 == 0 && (a.Data != fmt.Sprint("text ", at/2) || a.Code != int(api.OK)) {
				t.Errorf("page %d: %s", at, told(a))
			}
			if at%2 == 1 && a.Code != int(api.ErrJunk) {
				t.Errorf("page %d: %s", at, told(a))
			}
		}
		if b.u.Epoch() != i/4 {
			t.Errorf("epoch %d, not %d", b.u.Epoch(), i/4)
		}
		b.same()
	}
}

// P10.3: an elder epoch writes, fills and trims nothing once a later one is sealed, and reads nothing, crashes or not.
func TestElder(t *testing.T) {
	for _, sealed := range []int{1, 2, 5, math.MaxInt} {
		u, _ := unit.New(8)
		u.Do(api.Ask{Kind: api.AskWrite, Page: 1, Data: "a"})
		u.Do(api.Ask{Kind: api.AskSeal, Epoch: sealed})
		for _, elder := range []int{0, sealed - 1, -1, math.MinInt} {
			for at := range 4 {
				for _, kind := range own {
					expectIdle(t, u, api.Ask{Kind: kind, Epoch: elder, Page: at, Data: "b"}, code(api.ErrSealed, sealed))
				}
				u.Crash()
				u.Start()
			}
		}
		expect(t, u, api.Ask{Kind: api.AskRead, Epoch: sealed, Page: 1}, api.Answer{Data: "a", Epoch: sealed})
		expect(t, u, api.Ask{Kind: api.AskWrite, Epoch: sealed, Page: 2, Data: "c"}, code(api.OK, sealed))
		expect(t, u, api.Ask{Kind: api.AskSeal, Epoch: sealed}, api.Answer{N: 3, Epoch: sealed})
	}
}
