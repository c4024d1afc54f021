package append_test

import (
	"fmt"
	"math"
	"slices"
	"strings"
	"testing"

	"escheat/api"
	log "escheat/append"
)

// step is a question that must be asked, and what is heard of it.
type step struct {
	q     api.Ask
	x     api.Answer
	heard bool
}

// to is a question that is answered.
func to(q api.Ask, x api.Answer) step { return step{q, x, true} }

// unheard is a question of which no answer is heard.
func unheard(q api.Ask) step { return step{q, api.Answer{}, false} }

// play holds that an append asks just these questions, one behind the other, and tells it, as it is then.
func play(t *testing.T, p api.Projection, rec string, l ...step) *log.Append {
	t.Helper()
	a := log.New(p, rec)
	for _, s := range l {
		expectAsk(t, a, s.q)
		a.Hear(s.x, s.heard)
	}
	return a
}

// three is a projection of which the chains have three units, one, and two; next may come next behind it.
func three() api.Projection { return of(3, []int{4, 5, 7}, []int{6}, []int{0, 1}) }
func next() api.Projection  { return of(4, []int{5, 7, 8}, []int{6, 9}, []int{1}) }

var sealed, down, written, trimmed, junk, unwrit, full, noOrder = code(api.ErrSealed), code(api.ErrDown), code(api.ErrWritten), code(api.ErrTrimmed), code(api.ErrJunk), code(api.ErrUnwrit), code(api.ErrFull), code(api.ErrNoOrder)

// codes are all Codes of api, and numbers that are none.
var codes = []api.Errno{
	api.OK, api.ErrArg, api.ErrLong, api.ErrMany, api.ErrShort, api.ErrForm, api.ErrSum, api.ErrSealed, api.ErrWritten, api.ErrUnwrit, api.ErrTrimmed, api.ErrFull, api.ErrDown, api.ErrJunk, api.ErrNoOrder, api.ErrNext,
	api.ErrNone, api.ErrTwice, api.ErrNotDir, api.ErrIsDir, api.ErrFilled, api.ErrInside, api.ErrLinks, api.ErrSpace, api.ErrHandle, api.ErrTime, api.ErrBusy, api.ErrLine,
	-1, 4, 39, 49, -40, -45, 256, 256 + 40, 256 + 41, 256 + 44, 65536 + 42, 1<<32 + 40, 1<<32 + 43, 1 << 32, -1 << 32, math.MaxInt, math.MinInt,
}

// P15.1 to P15.3: the chapter's example
func TestExample(t *testing.T) {
	a := play(t, of(0, []int{0, 1}), "r", to(nextAsk(0), number(0)), to(writeAsk(0, 0, 0, "r"), ok), to(writeAsk(0, 1, 0, "r"), ok))
	expectOver(t, a, 0, api.OK)
}

// records are of all lengths that one may have, at the edges.
func records() []string {
	return []string{"", "r", "\x00", "\x00\xff\n", strings.Repeat("ab", 700), longest[1:], longest}
}

// P15.1: of a good projection and a record that is short enough, it asks for an address first, and is not over.
func TestNew(t *testing.T) {
	for _, p := range append(goods(), three(), next()) {
		for _, rec := range records() {
			a := log.New(p, rec)
			expectAsk(t, a, nextAsk(p.Epoch))
			expectP(t, a, p)
			a.Hear(number(0), true)
			expectAsk(t, a, writeAsk(p.Epoch, p.Chains[0][0], 0, rec))
			expectP(t, a, p)
		}
	}
}

// P15.1: each way in which a projection is not good, with a record that is short enough and with one that is not; P tells it all the same.
func TestNewArg(t *testing.T) {
	for _, p := range bads() {
		for _, rec := range append(records(), longer, strings.Repeat("x", 1<<16)) {
			a := log.New(p, rec)
			expectOver(t, a, 0, api.ErrArg)
			expectP(t, a, p)
			for _, x := range []api.Answer{ok, number(5), plan(three()), sealed, down, full} {
				a.Hear(x, true)
				a.Hear(x, false)
				expectOver(t, a, 0, api.ErrArg)
				expectP(t, a, p)
			}
		}
	}
}

// P15.1: a record that is too long, by one byte and by more
func TestNewLong(t *testing.T) {
	for _, p := range append(goods(), three()) {
		for _, rec := range []string{longer, longer + "x", strings.Repeat("\x00", maxRecord+1), strings.Repeat("x", 1<<16), strings.Repeat("x", 1<<16+1), strings.Repeat("x", 1<<20)} {
			a := log.New(p, rec)
			expectOver(t, a, 0, api.ErrLong)
			expectP(t, a, p)
			for _, x := range []api.Answer{ok, number(5), plan(next()), sealed, down, full} {
				a.Hear(x, true)
				a.Hear(x, false)
				expectOver(t, a, 0, api.ErrLong)
				expectP(t, a, p)
			}
		}
	}
}

// addresses are of each chain of up to four, at the beginning, in the midst, and at the end.
func addresses() []int {
	return []int{0, 1, 2, 3, 4, 5, 6, 7, 11, 100, 1001, 4094, 4095, 4096, 4097, 8191, 8192, 12287, 12288, maxAddr - 5, maxAddr - 4, maxAddr - 3, maxAddr - 2, maxAddr - 1}
}

// P15.2: what is asked at token, at each write and each look, of each chain; over with the address behind the last one
func TestAsk(t *testing.T) {
	for _, p := range append(goods(), three(), next()) {
		for _, addr := range addresses() {
			chain, page := p.Chains[addr%len(p.Chains)], addr/len(p.Chains)
			one, other := log.New(p, "rec"), log.New(p, "rec")
			for _, a := range []*log.Append{one, other} {
				expectAsk(t, a, nextAsk(p.Epoch))
				a.Hear(number(addr), true)
			}
			for _, unit := range chain {
				expectAsk(t, one, writeAsk(p.Epoch, unit, page, "rec"))
				one.Hear(ok, true)
				expectAsk(t, other, writeAsk(p.Epoch, unit, page, "rec"))
				other.Hear(written, true)
				expectAsk(t, other, readAsk(p.Epoch, unit, page))
				other.Hear(data("rec"), true)
			}
			expectOver(t, one, addr, api.OK)
			expectOver(t, other, addr, api.OK)
			expectP(t, one, p)
		}
	}
}

// P15.2: at layout and at check the Kind alone, wherever it came from
func TestAskLayout(t *testing.T) {
	for _, p := range append(goods(), three()) {
		for _, addr := range addresses() {
			for _, asks := range [][]api.Answer{{sealed}, {number(addr), sealed}, {number(addr), down}, {number(addr), written, sealed}, {number(addr), written, down}} {
				a := log.New(p, "rec")
				for _, x := range asks {
					a.Hear(x, true)
				}
				expectAsk(t, a, layoutAsk())
				expectP(t, a, p)
			}
		}
	}
}

// P15.2: behind another layout, its Epoch and its chains
func TestAskNewLayout(t *testing.T) {
	for _, p := range goods() {
		for _, q := range goods() {
			a := play(t, p, "r", to(nextAsk(p.Epoch), number(7)), to(writeAsk(p.Epoch, p.Chains[7%len(p.Chains)][0], 7/len(p.Chains), "r"), sealed), to(layoutAsk(), plan(q)), to(nextAsk(q.Epoch), number(7)))
			expectP(t, a, q)
			for _, unit := range q.Chains[7%len(q.Chains)] {
				expectAsk(t, a, writeAsk(q.Epoch, unit, 7/len(q.Chains), "r"))
				a.Hear(ok, true)
			}
			expectOver(t, a, 7, api.OK)
			expectP(t, a, q)
		}
	}
}

// P15.3: nothing was heard, at each place: the same is asked again, whatever the answer is that nobody hears.
func TestUnheard(t *testing.T) {
	for _, w := range ways() {
		for _, x := range alphabet() {
			b := w.made(t)
			for range 3 {
				b.hear(x, false)
				b.expectAt(w.name, w.i, w.addr)
			}
		}
	}
	p := three()
	a := play(t, p, "r",
		unheard(nextAsk(3)), unheard(nextAsk(3)), to(nextAsk(3), sealed), unheard(layoutAsk()), to(layoutAsk(), plan(p)), unheard(nextAsk(3)), to(nextAsk(3), number(0)),
		unheard(writeAsk(3, 4, 0, "r")), to(writeAsk(3, 4, 0, "r"), written), unheard(readAsk(3, 4, 0)), to(readAsk(3, 4, 0), data("r")),
		unheard(writeAsk(3, 5, 0, "r")), to(writeAsk(3, 5, 0, "r"), down), unheard(layoutAsk()), to(layoutAsk(), plan(p)), to(writeAsk(3, 5, 0, "r"), ok), to(writeAsk(3, 7, 0, "r"), ok),
	)
	expectOver(t, a, 0, api.OK)
}

// P15.3: at layout a good projection is taken, whatever its Epoch; with what is none it asks the same again.
func TestLayout(t *testing.T) {
	p := three()
	for _, q := range append(goods(), three(), next(), of(3, []int{9}), of(2, []int{4, 5, 7}, []int{6}, []int{0, 1}), of(0, []int{1}), of(maxEpoch, []int{1, 2})) {
		a := play(t, p, "r", to(nextAsk(3), sealed), to(layoutAsk(), plan(q)))
		expectAsk(t, a, nextAsk(q.Epoch))
		expectP(t, a, q)
	}
	for _, q := range bads() {
		a := play(t, p, "r", to(nextAsk(3), sealed), to(layoutAsk(), plan(q)), to(layoutAsk(), plan(q)))
		expectAsk(t, a, layoutAsk())
		expectP(t, a, p)
		a.Hear(plan(next()), true)
		expectAsk(t, a, nextAsk(4))
		expectP(t, a, next())
	}
	for _, err := range codes[1:] {
		a := play(t, p, "r", to(nextAsk(3), sealed), to(layoutAsk(), api.Answer{Code: int(err), P: next()}), to(layoutAsk(), code(err)))
		expectAsk(t, a, layoutAsk())
		expectP(t, a, p)
	}
}

// P15.3: at check a good projection of another Epoch is taken; else it is where it was, with the projection that it had.
func TestCheck(t *testing.T) {
	p := three()
	for i, unit := range p.Chains[0] {
		for _, look := range []int{0, 1} {
			asks := []step{to(nextAsk(3), number(9))}
			for _, u := range p.Chains[0][:i] {
				asks = append(asks, to(writeAsk(3, u, 3, "r"), ok))
			}
			was := writeAsk(3, unit, 3, "r")
			if look == 1 {
				asks = append(asks, to(was, written))
				was = readAsk(3, unit, 3)
			}
			asks = append(asks, to(was, down))
			expectChecks(t, p, asks, was)
		}
	}
}

// expectChecks holds what becomes of an append that these questions brought to check from this one.
func expectChecks(t *testing.T, p api.Projection, asks []step, was api.Ask) {
	t.Helper()
	for _, q := range append(goods(), next(), of(2, p.Chains...), of(4, p.Chains...), of(maxEpoch, []int{1})) {
		if q.Epoch != p.Epoch {
			a := play(t, p, "r", append(asks, to(layoutAsk(), plan(q)))...)
			expectAsk(t, a, nextAsk(q.Epoch))
			expectP(t, a, q)
		}
	}
	stay := []api.Answer{plan(p), plan(of(3, []int{9})), plan(of(3, []int{5, 7}, []int{6}, []int{0, 1})), plan(of(3, []int{1, 2, 3}, []int{4}))}
	for _, q := range bads() {
		stay = append(stay, plan(q))
	}
	for _, err := range codes[1:] {
		if err != api.ErrSealed && err != api.ErrDown && err != api.ErrNoOrder {
			stay = append(stay, code(err), api.Answer{Code: int(err), P: next()})
		}
	}
	for _, x := range stay {
		a := play(t, p, "r", append(asks, to(layoutAsk(), x), to(was, down), unheard(layoutAsk()), to(layoutAsk(), down), to(layoutAsk(), noOrder), to(layoutAsk(), x))...)
		expectAsk(t, a, was)
		expectP(t, a, p)
	}
	a := play(t, p, "r", append(asks, to(layoutAsk(), api.Answer{Code: int(api.ErrSealed), P: p}), to(layoutAsk(), plan(p)))...)
	expectAsk(t, a, nextAsk(3))
}

// P15.3: at token, numbers that are addresses, and numbers that are none
func TestToken(t *testing.T) {
	for _, p := range append(goods(), three()) {
		for _, n := range addresses() {
			a := play(t, p, "r", to(nextAsk(p.Epoch), number(n)))
			expectAsk(t, a, writeAsk(p.Epoch, p.Chains[n%len(p.Chains)][0], n/len(p.Chains), "r"))
		}
		for _, n := range []int{-1, -2, -4, maxAddr, maxAddr + 1, 2 * maxAddr, 1 << 31, -1 << 31, 1 << 32, 1<<32 + 1, -1 << 32, math.MaxInt, math.MaxInt - 3, math.MinInt, math.MinInt + 1} {
			a := play(t, p, "r", to(nextAsk(p.Epoch), number(n)), to(nextAsk(p.Epoch), number(n)))
			expectAsk(t, a, nextAsk(p.Epoch))
			expectP(t, a, p)
		}
	}
	for _, err := range codes[1:] {
		a := play(t, three(), "r", to(nextAsk(3), api.Answer{Code: int(err), N: 6}))
		switch err {
		case api.ErrFull:
			expectOver(t, a, 0, api.ErrFull)
		case api.ErrSealed:
			expectAsk(t, a, layoutAsk())
		default:
			expectAsk(t, a, nextAsk(3))
		}
	}
}

// wayTo are the questions, and their answers, that bring an append of three to write i of address 9 on the chain of three units.
func wayTo(i int) []step {
	l := []step{to(nextAsk(3), number(9))}
	for _, unit := range three().Chains[0][:i] {
		l = append(l, to(writeAsk(3, unit, 3, "r"), ok))
	}
	return l
}

// P15.3: each Code at each write: of the first unit, of one between, of the last
func TestWrite(t *testing.T) {
	chain := three().Chains[0]
	for i, unit := range chain {
		for _, err := range codes {
			x := api.Answer{Code: int(err), N: 5, Data: "r", P: next(), Epoch: 9, Mark: 1, Size: 2}
			a := play(t, three(), "r", append(wayTo(i), to(writeAsk(3, unit, 3, "r"), x))...)
			expectP(t, a, three())
			switch err {
			case api.OK:
				if i == 2 {
					expectOver(t, a, 9, api.OK)
				} else {
					expectAsk(t, a, writeAsk(3, chain[i+1], 3, "r"))
				}
			case api.ErrWritten:
				expectAsk(t, a, readAsk(3, unit, 3))
			case api.ErrTrimmed:
				expectAsk(t, a, nextAsk(3))
			case api.ErrNoOrder:
				expectAsk(t, a, writeAsk(3, unit, 3, "r"))
			case api.ErrDown, api.ErrSealed:
				expectAsk(t, a, layoutAsk())
			case api.ErrFull:
				expectOver(t, a, 0, []api.Errno{api.ErrFull, api.ErrTime, api.ErrTime}[i])
			default:
				expectOver(t, a, 0, err)
			}
		}
	}
}

// P15.3: each Code at each look, and with OK the record, another one and none
func TestLook(t *testing.T) {
	chain := three().Chains[0]
	for i, unit := range chain {
		l := append(wayTo(i), to(writeAsk(3, unit, 3, "r"), written))
		for _, err := range codes {
			x := api.Answer{Code: int(err), N: 5, Data: "r", P: next(), Epoch: 9, Mark: 1, Size: 2}
			a := play(t, three(), "r", append(l, to(readAsk(3, unit, 3), x))...)
			expectP(t, a, three())
			switch err {
			case api.OK:
				if i == 2 {
					expectOver(t, a, 9, api.OK)
				} else {
					expectAsk(t, a, writeAsk(3, chain[i+1], 3, "r"))
				}
			case api.ErrJunk, api.ErrTrimmed:
				expectAsk(t, a, nextAsk(3))
			case api.ErrUnwrit:
				expectAsk(t, a, writeAsk(3, unit, 3, "r"))
			case api.ErrNoOrder:
				expectAsk(t, a, readAsk(3, unit, 3))
			case api.ErrDown, api.ErrSealed:
				expectAsk(t, a, layoutAsk())
			default:
				expectOver(t, a, 0, err)
			}
		}
		for _, other := range []string{"", "R", "r ", "rr", "r\x00", "s", "q", longest} {
			a := play(t, three(), "r", append(l, to(readAsk(3, unit, 3), data(other)))...)
			expectAsk(t, a, nextAsk(3))
		}
	}
}

// P15.3: what is read is held against the whole record, whatever that is.
func TestLookRecords(t *testing.T) {
	all := append(records(), "s", "r\x00", longest[2:]+"y", "y"+longest[2:], strings.Repeat("ab", 699)+"ba", longer)
	for _, rec := range records() {
		for _, found := range all {
			a := play(t, of(0, []int{8}), rec, to(nextAsk(0), number(6)), to(writeAsk(0, 8, 6, rec), written), to(readAsk(0, 8, 6), data(found)))
			if found == rec {
				expectOver(t, a, 6, api.OK)
			} else {
				expectAsk(t, a, nextAsk(0))
			}
		}
	}
}

// P15.3: the address that was told last counts, and it is written from the first unit on.
func TestAnotherAddress(t *testing.T) {
	p := three()
	a := play(t, p, "r",
		to(nextAsk(3), number(9)), to(writeAsk(3, 4, 3, "r"), ok), to(writeAsk(3, 5, 3, "r"), trimmed),
		to(nextAsk(3), number(11)), to(writeAsk(3, 0, 3, "r"), ok), to(writeAsk(3, 1, 3, "r"), written), to(readAsk(3, 1, 3), junk),
		to(nextAsk(3), number(12)), to(writeAsk(3, 4, 4, "r"), written), to(readAsk(3, 4, 4), data("s")),
		to(nextAsk(3), number(2)), to(writeAsk(3, 0, 0, "r"), written), to(readAsk(3, 0, 0), trimmed),
		to(nextAsk(3), number(13)), to(writeAsk(3, 6, 4, "r"), written), to(readAsk(3, 6, 4), data("")),
		to(nextAsk(3), number(15)), to(writeAsk(3, 4, 5, "r"), ok), to(writeAsk(3, 5, 5, "r"), ok), to(writeAsk(3, 7, 5, "r"), ok),
	)
	expectOver(t, a, 15, api.OK)
	a = play(t, p, "r",
		to(nextAsk(3), number(9)), to(writeAsk(3, 4, 3, "r"), ok), to(writeAsk(3, 5, 3, "r"), down), to(layoutAsk(), plan(next())),
		to(nextAsk(4), number(1)), to(writeAsk(4, 6, 0, "r"), ok), to(writeAsk(4, 9, 0, "r"), sealed), to(layoutAsk(), plan(next())),
		to(nextAsk(4), number(0)), to(writeAsk(4, 5, 0, "r"), ok), to(writeAsk(4, 7, 0, "r"), ok), to(writeAsk(4, 8, 0, "r"), ok),
	)
	expectOver(t, a, 0, api.OK)
	expectP(t, a, next())
}

// fulls are ways to a full log, and what each comes to.
func fulls() (l [][]step, want []api.Errno) {
	first, second, third := writeAsk(3, 4, 3, "r"), writeAsk(3, 5, 3, "r"), writeAsk(3, 7, 3, "r")
	at9, atFull, look := to(nextAsk(3), number(9)), to(nextAsk(3), full), readAsk(3, 4, 3)
	again := to(layoutAsk(), plan(three()))
	for _, x := range []struct {
		want api.Errno
		l    []step
	}{
		{api.ErrFull, []step{atFull}},
		{api.ErrFull, []step{unheard(nextAsk(3)), to(nextAsk(3), noOrder), atFull}},
		{api.ErrFull, []step{to(nextAsk(3), sealed), unheard(layoutAsk()), again, atFull}},
		{api.ErrFull, []step{at9, to(first, full)}},
		{api.ErrFull, []step{at9, to(first, trimmed), atFull}},
		{api.ErrFull, []step{at9, to(first, noOrder), to(first, full)}},
		{api.ErrFull, []step{at9, to(first, down), unheard(layoutAsk()), again, to(first, full)}},
		{api.ErrFull, []step{at9, to(first, sealed), again, atFull}},
		{api.ErrFull, []step{at9, to(first, written), to(look, junk), atFull}},
		{api.ErrFull, []step{at9, to(first, written), unheard(look), to(look, data("s")), atFull}},
		{api.ErrFull, []step{at9, to(first, written), to(look, unwrit), to(first, full)}},
		{api.ErrFull, []step{at9, to(first, written), to(look, down), again, to(look, trimmed), atFull}},
		{api.ErrTime, []step{at9, to(first, ok), to(second, full)}},
		{api.ErrTime, []step{at9, to(first, ok), to(second, ok), to(third, full)}},
		{api.ErrTime, []step{at9, unheard(first), to(first, full)}},
		{api.ErrTime, []step{at9, unheard(first), to(first, trimmed), atFull}},
		{api.ErrTime, []step{at9, unheard(first), to(first, down), again, to(first, sealed), again, atFull}},
		{api.ErrTime, []step{at9, unheard(first), to(first, written), to(look, junk), atFull}},
		{api.ErrTime, []step{at9, to(first, written), to(look, unwrit), unheard(first), to(first, full)}},
		{api.ErrTime, []step{at9, to(first, ok), to(second, trimmed), atFull}},
		{api.ErrTime, []step{at9, to(first, ok), unheard(second), to(second, full)}},
		{api.ErrTime, []step{at9, to(first, ok), to(second, sealed), to(layoutAsk(), plan(next())), to(nextAsk(4), full)}},
		{api.ErrTime, []step{at9, to(first, ok), to(second, down), to(layoutAsk(), plan(next())), to(nextAsk(4), number(0)), to(writeAsk(4, 5, 0, "r"), full)}},
		{api.ErrTime, []step{at9, unheard(first), to(first, sealed), again, to(nextAsk(3), number(1)), to(writeAsk(3, 6, 0, "r"), written), to(readAsk(3, 6, 0), junk), to(nextAsk(3), number(2)), to(writeAsk(3, 0, 0, "r"), full)}},
	} {
		l, want = append(l, x.l), append(want, x.want)
	}
	return l, want
}

// P15.3, P15.4: a full log, with no Write asked so far, with one that was answered with OK, that went unheard, or that was answered otherwise, at this address or at an elder one
func TestFull(t *testing.T) {
	l, want := fulls()
	for i, asks := range l {
		expectOver(t, play(t, three(), "r", asks...), 0, want[i])
	}
	// Of Writes alone it is said: what a look found is no answer to one.
	a := play(t, three(), "r", append(wayTo(0), to(writeAsk(3, 4, 3, "r"), written), to(readAsk(3, 4, 3), data("r")), to(writeAsk(3, 5, 3, "r"), full))...)
	expectOver(t, a, 0, api.ErrFull)
	// A look knows no full log: what is answered there is told as any other Code.
	a = play(t, three(), "r", append(wayTo(1), to(writeAsk(3, 5, 3, "r"), written), to(readAsk(3, 5, 3), full))...)
	expectOver(t, a, 0, api.ErrFull)
}

// P15.1, P15.3: once it is over, it stays so, whatever is heard.
func TestOverStays(t *testing.T) {
	for _, w := range ways() {
		for _, x := range alphabet() {
			for _, heard := range []int{0, 1} {
				if b := w.made(t); w.name == "over" {
					b.hear(x, heard == 1)
					b.hear(x, true)
					b.expectAt("over", 0, w.addr)
					b.answers(plan(next()), number(1), ok, ok, ok)
					b.expectAt("over", 0, w.addr)
				}
			}
		}
	}
}

// P15.2: asking changes nothing, nor does telling, at each place.
func TestAskChangesNothing(t *testing.T) {
	for _, w := range ways() {
		b := w.made(t)
		want := show(b.a)
		for range 5 {
			b.a.Ask()
			b.a.Over()
			b.a.P()
			if got := show(b.a); got != want {
				t.Fatalf("%s %d: %s, and behind a question %s", w.name, w.i, want, got)
			}
		}
	}
	l, want := fulls()
	for i, asks := range l {
		a := log.New(three(), "r")
		for _, s := range asks {
			for range 3 {
				expectAsk(t, a, s.q)
				a.P()
			}
			a.Hear(s.x, s.heard)
		}
		expectOver(t, a, 0, want[i])
	}
}

// P15.1: all calls of nil
func TestNil(t *testing.T) {
	var a *log.Append
	for _, x := range append(alphabet(), ok) {
		a.Hear(x, true)
		a.Hear(x, false)
		expectOver(t, a, 0, api.ErrArg)
		if p := a.P(); p.Epoch != 0 || len(p.Chains) != 0 {
			t.Errorf("P of nil is %v", p)
		}
	}
}

// way is a place, and answers that bring an append of three, with the record "r", there.
type way struct {
	name    string
	i, addr int
	answers []api.Answer
}

func (w way) made(t testing.TB) both {
	t.Helper()
	b := made(t, three(), "r")
	b.answers(w.answers...)
	b.expectAt(w.name, w.i, w.addr)
	return b
}

// ways are ways to each place, by the first unit, one between and the last, with what was done ahead and without.
func ways() []way {
	at := number(9)
	l := []way{
		{"token", 0, 0, nil}, {"token", 0, 0, []api.Answer{at, trimmed}}, {"token", 0, 0, []api.Answer{at, ok, written, junk}}, {"token", 0, 0, []api.Answer{at, ok, sealed, plan(three())}},
		{"layout", 0, 0, []api.Answer{sealed}}, {"layout", 0, 0, []api.Answer{at, ok, sealed}}, {"layout", 0, 0, []api.Answer{at, written, sealed}}, {"layout", 0, 0, []api.Answer{at, ok, down, sealed}},
		{"over", 0, 9, []api.Answer{at, ok, ok, ok}}, {"over", 0, 13, []api.Answer{number(13), written, data("r")}}, {"over", 0, 0, []api.Answer{number(0), ok, ok, ok}}, {"over", 0, 0, []api.Answer{full}},
		{"over", 0, 0, []api.Answer{at, ok, full}}, {"over", 0, 0, []api.Answer{at, ok, code(api.ErrArg)}}, {"over", 0, 0, []api.Answer{at, ok, written, code(-7)}},
		{"write", 1, 9, []api.Answer{at, written, data("r")}}, {"write", 0, 9, []api.Answer{at, written, unwrit}}, {"write", 0, 7, []api.Answer{at, trimmed, number(7)}},
	}
	for i, done := range [][]api.Answer{{at}, {at, ok}, {at, ok, ok}} {
		l = append(l, way{"write", i, 9, done}, way{"look", i, 9, slices.Concat(done, []api.Answer{written})})
		l = append(l, way{"check", i, 9, slices.Concat(done, []api.Answer{down})}, way{"check", i, 9, slices.Concat(done, []api.Answer{written, down})})
	}
	return l
}

// alphabet is answers of each Code, and those that differ in more than it where that counts at some place.
func alphabet() []api.Answer {
	var l []api.Answer
	for _, err := range codes {
		l = append(l, code(err), api.Answer{Code: int(err), N: 13, Data: "r", P: next(), Mark: 3, Size: 4, Epoch: 9})
	}
	l = append(l, api.Answer{N: -1, Data: "s", P: three()}, api.Answer{N: maxAddr, P: of(3, []int{9, 8})}, api.Answer{N: maxAddr - 1, Data: "", P: of(2, []int{1}, []int{2})})
	for i, p := range bads() {
		l = append(l, api.Answer{N: i, Data: fmt.Sprint("r", i), P: p})
	}
	return l
}

// P15.3: all answers at all places, and what follows then, held against the words
func TestAllAnswers(t *testing.T) {
	short := []api.Answer{ok, number(13), data("r"), plan(next()), plan(of(3, []int{9, 8})), written, trimmed, full, unwrit, down, sealed, code(api.ErrArg)}
	for _, w := range ways() {
		for _, x := range alphabet() {
			b := w.made(t)
			b.answers(x)
			b.answers(short...)
		}
		for _, x := range short {
			for _, y := range short {
				for _, z := range short {
					b := w.made(t)
					b.answers(x, y, z, full)
				}
				for heard := range 3 {
					b := w.made(t)
					b.hear(x, heard == 0)
					b.hear(y, heard == 1)
					b.answers(full, plan(next()), full)
				}
			}
		}
	}
}
