package fetch_test

import (
	"fmt"
	"math"
	"slices"
	"testing"

	"escheat/api"
	"escheat/fetch"
)

// step is a question that must be asked, and what is heard of it.
type step struct {
	q     api.Ask
	x     api.Answer
	heard bool
}

// to is a question that is answered.
func to(q api.Ask, x api.Answer) step { return step{q, x, true} }

// unheard is a question of which no answer is heard.
func unheard(q api.Ask) step { return step{q, api.Answer{}, false} }

// play holds that a fetch asks just these questions, one behind the other, and tells it, as it is then.
func play(t *testing.T, p api.Projection, addr int, fill bool, l ...step) *fetch.Fetch {
	t.Helper()
	f := fetch.New(p, addr, fill)
	for _, s := range l {
		expectAsk(t, f, s.q)
		f.Hear(s.x, s.heard)
	}
	return f
}

// three is a projection of which the chains have three units, one, and two; next may come next behind it.
func three() api.Projection { return of(3, []int{4, 5, 7}, []int{6}, []int{0, 1}) }
func next() api.Projection  { return of(4, []int{5, 7, 8}, []int{6, 9}, []int{1}) }

var sealed, down, written, trimmed, junk, unwrit, full, noOrder = code(api.ErrSealed), code(api.ErrDown), code(api.ErrWritten), code(api.ErrTrimmed), code(api.ErrJunk), code(api.ErrUnwrit), code(api.ErrFull), code(api.ErrNoOrder)

// codes are all Codes of api, and numbers that are none.
var codes = []api.Errno{
	api.OK, api.ErrArg, api.ErrLong, api.ErrMany, api.ErrShort, api.ErrForm, api.ErrSum, api.ErrSealed, api.ErrWritten, api.ErrUnwrit, api.ErrTrimmed, api.ErrFull, api.ErrDown, api.ErrJunk, api.ErrNoOrder, api.ErrNext,
	api.ErrNone, api.ErrTwice, api.ErrNotDir, api.ErrIsDir, api.ErrFilled, api.ErrInside, api.ErrLinks, api.ErrSpace, api.ErrHandle, api.ErrTime, api.ErrBusy, api.ErrLine,
	-1, 4, 39, 49, -40, -45, 256, 256 + 40, 256 + 42, 256 + 45, 65536 + 43, 1<<32 + 40, 1<<32 + 45, 1 << 32, -1 << 32, math.MaxInt, math.MinInt,
}

// fills are: with fill, and without.
var fills = []bool{true, false}

// P16.1, P16.2: the chapter's example
func TestExample(t *testing.T) {
	f := play(t, of(0, []int{0, 1}), 0, true, to(readAsk(0, 1, 0), unwrit), to(readAsk(0, 0, 0), unwrit), to(fillAsk(0, 0, 0), ok), to(fillAsk(0, 1, 0), ok))
	expectOver(t, f, isJunk)
}

// texts are of all lengths that a page may have, at the edges, and of more.
func texts() []string {
	return []string{"", "r", "\x00", "\x00\xff\n", longest[1:], longest, longest + "x"}
}

// addresses are of each chain of up to four, at the beginning, in the midst, and at the end.
func addresses() []int {
	return []int{0, 1, 2, 3, 4, 5, 6, 7, 11, 100, 1001, 4094, 4095, 4096, 4097, 8191, 8192, 12287, 12288, maxAddr - 5, maxAddr - 4, maxAddr - 3, maxAddr - 2, maxAddr - 1}
}

// P16.1: of a good projection and an address it asks for the last unit first, and is not over.
func TestNew(t *testing.T) {
	for _, p := range append(goods(), three(), next()) {
		for _, addr := range addresses() {
			for _, fill := range fills {
				f := fetch.New(p, addr, fill)
				chain := p.Chains[addr%len(p.Chains)]
				expectAsk(t, f, readAsk(p.Epoch, chain[len(chain)-1], addr/len(p.Chains)))
				expectP(t, f, p)
			}
		}
	}
}

// noAddresses are numbers that are no addresses.
func noAddresses() []int {
	return []int{-1, -2, -4, maxAddr, maxAddr + 1, 2 * maxAddr, 1 << 31, -1 << 31, 1 << 32, 1<<32 + 1, -1 << 32, math.MaxInt, math.MaxInt - 3, math.MinInt, math.MinInt + 1}
}

// expectNever holds that of p and addr it is over from the beginning on, whatever is heard; P tells the projection all the same.
func expectNever(t *testing.T, p api.Projection, addr int) {
	t.Helper()
	for _, fill := range fills {
		f := fetch.New(p, addr, fill)
		expectOver(t, f, failed(api.ErrArg))
		expectP(t, f, p)
		for _, x := range []api.Answer{ok, data("r"), plan(three()), sealed, down, unwrit, junk, trimmed} {
			f.Hear(x, true)
			f.Hear(x, false)
			expectOver(t, f, failed(api.ErrArg))
			expectP(t, f, p)
		}
	}
}

// P16.1: each way in which a projection is not good, with an address and with none
func TestNewProjection(t *testing.T) {
	for _, p := range bads() {
		for _, addr := range append(noAddresses(), 0, 1, 7, maxAddr-1) {
			expectNever(t, p, addr)
		}
	}
}

// P16.1: an address that is none, with each good projection
func TestNewAddress(t *testing.T) {
	for _, p := range append(goods(), three(), next()) {
		for _, addr := range noAddresses() {
			expectNever(t, p, addr)
		}
	}
}

// P16.1: what is asked at last, first, junk and each mend, of each chain; over behind the last one
func TestAsk(t *testing.T) {
	for _, p := range append(goods(), three(), next()) {
		for _, addr := range addresses() {
			chain, page := p.Chains[addr%len(p.Chains)], addr/len(p.Chains)
			start := []step{to(readAsk(p.Epoch, chain[len(chain)-1], page), unwrit)}
			filled := slices.Concat(start, []step{to(readAsk(p.Epoch, chain[0], page), unwrit), to(fillAsk(p.Epoch, chain[0], page), ok)})
			if len(chain) == 1 {
				expectOver(t, play(t, p, addr, true, start[0], to(fillAsk(p.Epoch, chain[0], page), ok)), isJunk)
				expectOver(t, play(t, p, addr, false, start[0]), empty)
				continue
			}
			expectMends(t, p, addr, true, isJunk, filled...)
			for _, fill := range fills {
				expectMends(t, p, addr, fill, isJunk, append(start, to(readAsk(p.Epoch, chain[0], page), junk))...)
				for _, s := range texts() {
					expectMends(t, p, addr, fill, has(s), append(start, to(readAsk(p.Epoch, chain[0], page), data(s)))...)
				}
			}
		}
	}
}

// expectMends holds that a fetch that found this on the first unit by these questions puts it on all others, one behind the other, and tells it then.
func expectMends(t *testing.T, p api.Projection, addr int, fill bool, found end, l ...step) {
	t.Helper()
	for i, unit := range p.Chains[addr%len(p.Chains)][1:] {
		l = append(l, to(mendAsk(found, p.Epoch, unit, addr/len(p.Chains)), []api.Answer{ok, written}[i%2]))
	}
	f := play(t, p, addr, fill, l...)
	expectOver(t, f, found)
	expectP(t, f, p)
}

// P16.1: at layout and at check the Kind alone, wherever it came from
func TestAskLayout(t *testing.T) {
	for _, p := range append(goods(), three()) {
		for _, addr := range addresses() {
			for _, ahead := range [][]api.Answer{{}, {unwrit}, {unwrit, unwrit}, {unwrit, unwrit, ok}, {unwrit, junk}, {unwrit, data("r")}, {unwrit, data("r"), ok}, {unwrit, data("r"), ok, written}, {down}, {sealed}} {
				for _, x := range []api.Answer{sealed, down} {
					b := made(t, p, addr, true)
					b.answers(ahead...)
					if _, _, _, over := b.f.Over(); over {
						continue
					}
					b.answers(x)
					expectAsk(t, b.f, layoutAsk())
					expectP(t, b.f, p)
				}
			}
		}
	}
}

// P16.1, P16.2: behind another layout, its Epoch and its chains, whatever the address's chain was ahead
func TestAskNewLayout(t *testing.T) {
	for _, p := range goods() {
		for _, q := range goods() {
			for _, addr := range []int{0, 7, 9, maxAddr - 1} {
				was := p.Chains[addr%len(p.Chains)]
				f := play(t, p, addr, false, to(readAsk(p.Epoch, was[len(was)-1], addr/len(p.Chains)), sealed), to(layoutAsk(), plan(q)))
				expectP(t, f, q)
				chain, page := q.Chains[addr%len(q.Chains)], addr/len(q.Chains)
				expectAsk(t, f, readAsk(q.Epoch, chain[len(chain)-1], page))
				f.Hear(unwrit, true)
				if len(chain) == 1 {
					expectOver(t, f, empty)
					continue
				}
				expectAsk(t, f, readAsk(q.Epoch, chain[0], page))
				f.Hear(data("s"), true)
				for _, unit := range chain[1:] {
					expectAsk(t, f, writeAsk(q.Epoch, unit, page, "s"))
					f.Hear(ok, true)
				}
				expectOver(t, f, has("s"))
				expectP(t, f, q)
			}
		}
	}
}

// way is a place, and answers that bring a fetch of three there.
type way struct {
	name    string
	i, addr int
	fill    bool
	answers []api.Answer
}

func (w way) made(t testing.TB) both {
	t.Helper()
	b := made(t, three(), w.addr, w.fill)
	b.answers(w.answers...)
	b.expectAt(w.name, w.i)
	return b
}

// reads are ways to the places where a unit is asked: of chains of three, two and one, with what was found in each way in which it is.
func reads() []way {
	l := []way{{"junk", 0, 9, true, []api.Answer{unwrit, unwrit}}, {"junk", 0, 11, true, []api.Answer{unwrit, unwrit, written, unwrit}}, {"junk", 0, 7, true, []api.Answer{unwrit}}}
	for _, fill := range fills {
		l = append(l, way{"last", 0, 9, fill, nil}, way{"last", 0, 11, fill, nil}, way{"last", 0, 7, fill, nil}, way{"last", 0, 9, fill, []api.Answer{unwrit, data("r"), sealed, plan(three())}})
		l = append(l, way{"first", 0, 9, fill, []api.Answer{unwrit}}, way{"first", 0, 11, fill, []api.Answer{unwrit}})
		for _, x := range []api.Answer{data("r"), data(""), data(longest), junk} {
			l = append(l, way{"mend", 1, 9, fill, []api.Answer{unwrit, x}}, way{"mend", 2, 9, fill, []api.Answer{unwrit, x, written}}, way{"mend", 1, 11, fill, []api.Answer{unwrit, x}})
		}
	}
	l = append(l, way{"first", 0, 9, true, []api.Answer{unwrit, unwrit, written}}, way{"first", 0, 7, true, []api.Answer{unwrit, written}})
	filled := []api.Answer{unwrit, unwrit, ok}
	return append(l, way{"mend", 1, 9, true, filled}, way{"mend", 2, 9, true, append(filled, ok)}, way{"mend", 1, 11, true, filled}, way{"mend", 1, 9, true, []api.Answer{unwrit, unwrit, written, data("r")}})
}

// ways are ways to each place.
func ways() []way {
	l := reads()
	for _, w := range reads() {
		l = append(l, way{"layout", 0, w.addr, w.fill, slices.Concat(w.answers, []api.Answer{sealed})}, way{"layout", 0, w.addr, w.fill, slices.Concat(w.answers, []api.Answer{down, sealed})})
		l = append(l, way{"check", w.i, w.addr, w.fill, slices.Concat(w.answers, []api.Answer{down})}, way{"check", w.i, w.addr, w.fill, slices.Concat(w.answers, []api.Answer{down, unwrit, down})})
	}
	return append(l, ends()...)
}

// ends are ways to each end.
func ends() []way {
	var l []way
	for _, fill := range fills {
		for _, x := range []api.Answer{data("r"), data(""), data(longest), junk, trimmed, code(api.ErrArg), full, noOrder, code(-7)} {
			l = append(l, way{"over", 0, 9, fill, []api.Answer{x}}, way{"over", 0, 7, fill, []api.Answer{x}}, way{"over", 0, 9, fill, []api.Answer{unwrit, x, ok, written}})
		}
		l = append(l, way{"over", 0, 9, fill, []api.Answer{unwrit, data("r"), trimmed}}, way{"over", 0, 9, fill, []api.Answer{unwrit, data("r"), ok, full}}, way{"over", 0, 9, fill, []api.Answer{unwrit, junk, trimmed}}, way{"over", 0, 9, fill, []api.Answer{unwrit, junk, ok, full}})
	}
	l = append(l, way{"over", 0, 9, false, []api.Answer{unwrit, unwrit}}, way{"over", 0, 7, false, []api.Answer{unwrit}})
	return append(l, way{"over", 0, 9, true, []api.Answer{unwrit, unwrit, trimmed}}, way{"over", 0, 9, true, []api.Answer{unwrit, unwrit, full}}, way{"over", 0, 7, true, []api.Answer{unwrit, ok}}, way{"over", 0, 9, true, []api.Answer{unwrit, unwrit, ok, ok, ok}})
}

// P16.2: nothing was heard, at each place: the same is asked again, whatever the answer is that nobody hears.
func TestUnheard(t *testing.T) {
	for _, w := range ways() {
		for _, x := range alphabet() {
			b := w.made(t)
			for range 3 {
				b.hear(x, false)
				b.expectAt(w.name, w.i)
			}
		}
	}
	last, first, p := readAsk(3, 7, 3), readAsk(3, 4, 3), three()
	f := play(t, p, 9, true,
		unheard(last), step{last, data("s"), false}, to(last, sealed), unheard(layoutAsk()), to(layoutAsk(), plan(p)), unheard(last), to(last, unwrit), unheard(first), step{first, junk, false}, to(first, unwrit),
		unheard(fillAsk(3, 4, 3)), to(fillAsk(3, 4, 3), written), unheard(first), to(first, data("r")),
		unheard(writeAsk(3, 5, 3, "r")), to(writeAsk(3, 5, 3, "r"), down), unheard(layoutAsk()), to(layoutAsk(), plan(p)), to(writeAsk(3, 5, 3, "r"), ok), unheard(writeAsk(3, 7, 3, "r")), to(writeAsk(3, 7, 3, "r"), ok),
	)
	expectOver(t, f, has("r"))
}

// expectReads holds that it reads the last unit of its chain in p.
func expectReads(t *testing.T, f *fetch.Fetch, p api.Projection, addr int) {
	t.Helper()
	chain := p.Chains[addr%len(p.Chains)]
	expectAsk(t, f, readAsk(p.Epoch, chain[len(chain)-1], addr/len(p.Chains)))
	expectP(t, f, p)
}

// others are good projections of another Epoch than three's.
func others() []api.Projection {
	l := []api.Projection{next(), of(2, three().Chains...), of(4, three().Chains...), of(maxEpoch, []int{1}), of(0, []int{4}), of(2, []int{4, 5, 7}, []int{6}, []int{0, 1}, []int{2})}
	return append(l, slices.DeleteFunc(goods(), func(p api.Projection) bool { return p.Epoch == 3 })...)
}

// alikes are good projections of three's Epoch.
func alikes() []api.Projection {
	return []api.Projection{three(), of(3, []int{9}), of(3, []int{5, 7}, []int{6}, []int{0, 1}), of(3, []int{1, 2, 3}, []int{4}), of(3, []int{4, 5, 7}, []int{6}, []int{0, 1}, []int{2})}
}

// P16.2: at layout a good projection is taken, whatever its Epoch; with what is none it asks the same again.
func TestLayout(t *testing.T) {
	for _, w := range ways() {
		if w.name != "layout" {
			continue
		}
		for _, q := range append(others(), alikes()...) {
			b := w.made(t)
			b.answers(plan(q))
			expectReads(t, b.f, q, w.addr)
		}
		for _, x := range others()[:2] {
			for _, y := range stay() {
				b := w.made(t)
				b.answers(y, y)
				expectAsk(t, b.f, layoutAsk())
				expectP(t, b.f, three())
				b.answers(plan(x))
				expectReads(t, b.f, x, w.addr)
			}
		}
	}
}

// stay are answers by which no projection is told: of one that is not good, or with any Code.
func stay() []api.Answer {
	var l []api.Answer
	for _, q := range bads() {
		l = append(l, plan(q))
	}
	for _, err := range codes[1:] {
		l = append(l, code(err), api.Answer{Code: int(err), P: next()})
	}
	return l
}

// P16.2: at check a good projection of another Epoch is taken; else it is where it was, with what was found and the projection that it had.
func TestCheck(t *testing.T) {
	for _, w := range reads() {
		was, _ := w.made(t).f.Ask()
		for _, q := range others() {
			b := w.made(t)
			b.answers(down, plan(q))
			expectReads(t, b.f, q, w.addr)
		}
		for _, q := range alikes() {
			expectBack(t, w, was, plan(q))
		}
		for _, x := range stay() {
			if x.Code != int(api.ErrSealed) && x.Code != int(api.ErrDown) {
				expectBack(t, w, was, x)
			}
		}
		b := w.made(t)
		b.answers(down, api.Answer{Code: int(api.ErrSealed), P: next()})
		expectAsk(t, b.f, layoutAsk())
		expectP(t, b.f, three())
		b.answers(plan(three()))
		expectReads(t, b.f, three(), w.addr)
	}
}

// expectBack holds that this answer lets it go back from check to what it asked ahead, each time.
func expectBack(t *testing.T, w way, was api.Ask, x api.Answer) {
	t.Helper()
	b := w.made(t)
	for range 3 {
		b.answers(down, down)
		b.hear(x, false)
		expectAsk(t, b.f, layoutAsk())
		b.answers(x)
		expectAsk(t, b.f, was)
		expectP(t, b.f, three())
	}
}

// fullAnswer is an answer with that Code that has something in each field.
func fullAnswer(err api.Errno) api.Answer {
	return api.Answer{Code: int(err), N: 5, Data: "r", P: next(), Epoch: 9, Mark: 1, Size: 2}
}

// expectElse holds what comes of the Codes that mean the same of each unit, and of those that the chapter does not name there.
func expectElse(t *testing.T, f *fetch.Fetch, err api.Errno) {
	t.Helper()
	switch err {
	case api.ErrTrimmed:
		expectOver(t, f, gone)
	case api.ErrSealed, api.ErrDown:
		expectAsk(t, f, layoutAsk())
	default:
		expectOver(t, f, failed(err))
	}
}

// P16.2: each Code at last, of chains of three, two and one
func TestLast(t *testing.T) {
	for _, addr := range []int{9, 11, 7} {
		chain, page := three().Chains[addr%3], addr/3
		at := readAsk(3, chain[len(chain)-1], page)
		for _, fill := range fills {
			for _, err := range codes {
				f := play(t, three(), addr, fill, to(at, fullAnswer(err)))
				expectP(t, f, three())
				switch {
				case err == api.OK:
					expectOver(t, f, has("r"))
				case err == api.ErrJunk:
					expectOver(t, f, isJunk)
				case err == api.ErrUnwrit && len(chain) > 1:
					expectAsk(t, f, readAsk(3, chain[0], page))
				case err == api.ErrUnwrit && fill:
					expectAsk(t, f, fillAsk(3, 6, page))
				case err == api.ErrUnwrit:
					expectOver(t, f, empty)
				default:
					expectElse(t, f, err)
				}
			}
			for _, s := range texts() {
				expectOver(t, play(t, three(), addr, fill, to(at, data(s))), has(s))
			}
		}
	}
}

// P16.2: each Code at first, of chains of three and two, and of one behind a page that was written meanwhile
func TestFirst(t *testing.T) {
	for _, addr := range []int{9, 11, 7} {
		for _, fill := range fills {
			if addr == 7 && !fill {
				continue
			}
			for _, err := range codes {
				chain, page := three().Chains[addr%3], addr/3
				f := play(t, three(), addr, fill, append(firstSteps(addr), to(readAsk(3, chain[0], page), fullAnswer(err)))...)
				expectP(t, f, three())
				switch {
				case err == api.OK && addr == 7:
					expectOver(t, f, has("r"))
				case err == api.OK:
					expectAsk(t, f, writeAsk(3, chain[1], page, "r"))
				case err == api.ErrJunk && addr == 7:
					expectOver(t, f, isJunk)
				case err == api.ErrJunk:
					expectAsk(t, f, fillAsk(3, chain[1], page))
				case err == api.ErrUnwrit && fill:
					expectAsk(t, f, fillAsk(3, chain[0], page))
				case err == api.ErrUnwrit:
					expectOver(t, f, empty)
				default:
					expectElse(t, f, err)
				}
			}
		}
	}
}

// firstSteps bring a fetch of three to first; with a chain of one unit that is behind a Fill that found it written.
func firstSteps(addr int) []step {
	page := addr / 3
	return [][]step{{to(readAsk(3, 7, page), unwrit)}, {to(readAsk(3, 6, page), unwrit), to(fillAsk(3, 6, page), written)}, {to(readAsk(3, 1, page), unwrit)}}[addr%3]
}

// junkSteps bring a fetch of three with fill to junk.
func junkSteps(addr int) []step {
	return append(firstSteps(addr), to(readAsk(3, three().Chains[addr%3][0], addr/3), unwrit))
}

// P16.2: each Code at junk, of chains of three, two and one
func TestJunk(t *testing.T) {
	for _, addr := range []int{9, 11, 7} {
		for _, err := range codes {
			chain, page := three().Chains[addr%3], addr/3
			f := play(t, three(), addr, true, append(junkSteps(addr), to(fillAsk(3, chain[0], page), fullAnswer(err)))...)
			expectP(t, f, three())
			switch {
			case err == api.OK && addr == 7:
				expectOver(t, f, isJunk)
			case err == api.OK:
				expectAsk(t, f, fillAsk(3, chain[1], page))
			case err == api.ErrWritten:
				expectAsk(t, f, readAsk(3, chain[0], page))
			default:
				expectElse(t, f, err)
			}
		}
	}
}

// mends are ways to mend 1, and what was found there.
func mends(addr int) (l [][]step, found []end) {
	at := readAsk(3, three().Chains[addr%3][0], addr/3)
	for _, s := range []string{"r", "", longest} {
		l, found = append(l, append(firstSteps(addr), to(at, data(s)))), append(found, has(s))
	}
	l, found = append(l, append(firstSteps(addr), to(at, junk))), append(found, isJunk)
	l, found = append(l, append(junkSteps(addr), to(fillAsk(3, at.Unit, at.Page), ok))), append(found, isJunk)
	l, found = append(l, append(junkSteps(addr), to(fillAsk(3, at.Unit, at.Page), written), to(at, junk))), append(found, isJunk)
	return append(l, append(junkSteps(addr), to(fillAsk(3, at.Unit, at.Page), written), to(at, data("s")))), append(found, has("s"))
}

// P16.2: each Code at each mend, of a unit between and of the last one, with each thing that was found
func TestMend(t *testing.T) {
	for _, addr := range []int{9, 11} {
		l, all := mends(addr)
		chain, page := three().Chains[addr%3], addr/3
		for k, found := range all {
			asks := l[k]
			for i, unit := range chain[1:] {
				was := mendAsk(found, 3, unit, page)
				for _, err := range codes {
					f := play(t, three(), addr, true, append(asks, to(was, fullAnswer(err)))...)
					expectP(t, f, three())
					switch {
					case (err == api.OK || err == api.ErrWritten) && i+2 == len(chain):
						expectOver(t, f, found)
					case err == api.OK || err == api.ErrWritten:
						expectAsk(t, f, mendAsk(found, 3, chain[i+2], page))
					default:
						expectElse(t, f, err)
					}
				}
				asks = append(asks, to(was, ok))
			}
		}
	}
}

// P16.2: a chain of four is read at its last unit, and mended one behind the other.
func TestLongChain(t *testing.T) {
	p := of(2, []int{3, 2, 1, 0})
	f := play(t, p, 5, true, to(readAsk(2, 0, 5), unwrit), to(readAsk(2, 3, 5), unwrit), to(fillAsk(2, 3, 5), written), to(readAsk(2, 3, 5), unwrit), to(fillAsk(2, 3, 5), written), to(readAsk(2, 3, 5), data("r")),
		to(writeAsk(2, 2, 5, "r"), ok), to(writeAsk(2, 1, 5, "r"), written), to(writeAsk(2, 0, 5, "r"), ok))
	expectOver(t, f, has("r"))
	f = play(t, p, 5, false, to(readAsk(2, 0, 5), unwrit), to(readAsk(2, 3, 5), junk), to(fillAsk(2, 2, 5), ok), to(fillAsk(2, 1, 5), written), to(fillAsk(2, 0, 5), ok))
	expectOver(t, f, isJunk)
}

// P16.2: of what was found under an elder projection a new one leaves nothing: all is read anew, and what is found then is told.
func TestNewProjectionForgets(t *testing.T) {
	for _, addr := range []int{9, 11} {
		l, _ := mends(addr)
		for _, asks := range l {
			for _, again := range [][]api.Answer{{sealed, plan(next())}, {sealed, plan(three())}, {down, plan(next())}, {down, sealed, plan(of(3, []int{4, 5, 7}, []int{6}, []int{8, 9}))}} {
				for _, behind := range [][]api.Answer{{data("new")}, {junk}, {trimmed}, {code(api.ErrArg)}, {unwrit}, {unwrit, data("new")}, {unwrit, data("new"), ok}, {unwrit, data("new"), ok, ok}, {unwrit, junk}, {unwrit, junk, ok, ok}, {unwrit, unwrit}, {unwrit, unwrit, ok}, {unwrit, unwrit, ok, ok, ok}, {unwrit, unwrit, trimmed}} {
					b := made(t, three(), addr, true)
					for _, s := range asks {
						b.hear(s.x, s.heard)
					}
					b.answers(again...)
					b.expectAt("last", 0)
					expectReads(t, b.f, b.m.p, addr)
					b.answers(behind...)
				}
			}
		}
	}
	f := play(t, three(), 9, false, to(readAsk(3, 7, 3), unwrit), to(readAsk(3, 4, 3), data("old")), to(writeAsk(3, 5, 3, "old"), sealed), to(layoutAsk(), plan(next())), to(readAsk(4, 8, 3), unwrit), to(readAsk(4, 5, 3), unwrit))
	expectOver(t, f, empty)
	f = play(t, three(), 9, true, to(readAsk(3, 7, 3), unwrit), to(readAsk(3, 4, 3), data("old")), to(writeAsk(3, 5, 3, "old"), sealed), to(layoutAsk(), plan(next())), to(readAsk(4, 8, 3), unwrit), to(readAsk(4, 5, 3), unwrit), to(fillAsk(4, 5, 3), ok), to(fillAsk(4, 7, 3), ok), to(fillAsk(4, 8, 3), ok))
	expectOver(t, f, isJunk)
	f = play(t, three(), 9, true, to(readAsk(3, 7, 3), unwrit), to(readAsk(3, 4, 3), unwrit), to(fillAsk(3, 4, 3), ok), to(fillAsk(3, 5, 3), down), to(layoutAsk(), plan(next())), to(readAsk(4, 8, 3), unwrit), to(readAsk(4, 5, 3), data("new")), to(writeAsk(4, 7, 3, "new"), ok), to(writeAsk(4, 8, 3, "new"), written))
	expectOver(t, f, has("new"))
}

// P16.1: what each end tells: its kind, its text, its error, and zeros beside them
func TestOver(t *testing.T) {
	at := readAsk(3, 7, 3)
	start := []step{to(at, unwrit), to(readAsk(3, 4, 3), data("r"))}
	for _, x := range []struct {
		want end
		l    []step
	}{
		{has("r"), []step{to(at, data("r"))}},
		{has(""), []step{to(at, data(""))}},
		{isJunk, []step{to(at, api.Answer{Code: int(api.ErrJunk), Data: "r"})}},
		{gone, []step{to(at, api.Answer{Code: int(api.ErrTrimmed), Data: "r"})}},
		{failed(api.ErrFull), []step{to(at, api.Answer{Code: int(api.ErrFull), Data: "r"})}},
		{has("r"), append(start, to(writeAsk(3, 5, 3, "r"), api.Answer{Data: "s"}), to(writeAsk(3, 7, 3, "r"), api.Answer{Code: int(api.ErrWritten), Data: "s"}))},
		{gone, append(start, to(writeAsk(3, 5, 3, "r"), trimmed))},
		{failed(api.ErrJunk), append(start, to(writeAsk(3, 5, 3, "r"), junk))},
		{failed(api.ErrUnwrit), append(start, to(writeAsk(3, 5, 3, "r"), ok), to(writeAsk(3, 7, 3, "r"), unwrit))},
		{failed(api.ErrNoOrder), append(start, to(writeAsk(3, 5, 3, "r"), noOrder))},
		{empty, []step{to(at, unwrit), to(readAsk(3, 4, 3), api.Answer{Code: int(api.ErrUnwrit), Data: "r"})}},
	} {
		expectOver(t, play(t, three(), 9, false, x.l...), x.want)
	}
	f := play(t, three(), 9, true, to(at, unwrit), to(readAsk(3, 4, 3), api.Answer{Code: int(api.ErrJunk), Data: "s"}), to(fillAsk(3, 5, 3), data("s")), to(fillAsk(3, 7, 3), data("s")))
	expectOver(t, f, isJunk)
	f = play(t, three(), 7, true, to(readAsk(3, 6, 2), api.Answer{Code: int(api.ErrUnwrit), Data: "s"}), to(fillAsk(3, 6, 2), data("s")))
	expectOver(t, f, isJunk)
}

// P16.2: once it is over, it stays so, whatever is heard.
func TestOverStays(t *testing.T) {
	for _, w := range ends() {
		want := endOf(t, w.made(t).f)
		for _, x := range alphabet() {
			b := w.made(t)
			b.answers(x, x)
			b.hear(x, false)
			b.answers(plan(next()), unwrit, data("new"), ok, ok, sealed, plan(next()), trimmed)
			expectOver(t, b.f, want)
			expectP(t, b.f, three())
		}
	}
}

// P16.1: asking changes nothing, nor does telling, at each place.
func TestAskChangesNothing(t *testing.T) {
	for _, w := range ways() {
		b := w.made(t)
		want := show(b.f)
		for range 5 {
			b.f.Ask()
			b.f.Over()
			b.f.P()
			if got := show(b.f); got != want {
				t.Fatalf("%s %d: %s, and behind a question %s", w.name, w.i, want, got)
			}
		}
		b.same()
		b.answers(ok, ok, ok)
	}
}

// P16.1: all calls of nil
func TestNil(t *testing.T) {
	var f *fetch.Fetch
	for _, x := range append(alphabet(), ok) {
		f.Hear(x, true)
		f.Hear(x, false)
		expectOver(t, f, failed(api.ErrArg))
		if p := f.P(); p.Epoch != 0 || len(p.Chains) != 0 {
			t.Errorf("P of nil is %v", p)
		}
	}
}

// alphabet is answers of each Code, and those that differ in more than it where that counts at some place.
func alphabet() []api.Answer {
	var l []api.Answer
	for _, err := range codes {
		l = append(l, code(err), api.Answer{Code: int(err), N: 13, Data: "s", P: next(), Mark: 3, Size: 4, Epoch: 9})
	}
	l = append(l, api.Answer{N: -1, Data: longest, P: three()}, api.Answer{N: maxAddr, P: of(3, []int{9, 8})}, api.Answer{Data: longest + "x", P: of(2, []int{1}, []int{2})})
	for i, p := range bads() {
		l = append(l, api.Answer{N: i, Data: fmt.Sprint("r", i), P: p})
	}
	return l
}

// P16.2: all answers at all places, and what follows then, held against the words
func TestAllAnswers(t *testing.T) {
	short := []api.Answer{ok, data("s"), plan(next()), plan(of(3, []int{9, 8})), written, trimmed, junk, full, unwrit, down, sealed, noOrder, code(api.ErrArg)}
	for _, w := range ways() {
		for _, x := range alphabet() {
			b := w.made(t)
			b.answers(x)
			b.answers(short...)
		}
	}
	for _, w := range reads() {
		for _, x := range short {
			for _, y := range short {
				b := w.made(t)
				b.answers(x, y, unwrit, unwrit, data("t"), ok, ok)
				for heard := range 3 {
					b := w.made(t)
					b.hear(x, heard == 0)
					b.hear(y, heard == 1)
					b.answers(data("t"), plan(next()), unwrit)
				}
			}
		}
	}
}
