package reform_test

import (
	"math"
	"slices"
	"strings"
	"testing"

	"escheat/api"
	"escheat/reform"
)

// step is a question that must be asked, and what is heard of it.
type step struct {
	q     api.Ask
	x     api.Answer
	heard bool
}

// to is a question that is answered.
func to(q api.Ask, x api.Answer) step { return step{q, x, true} }

// unheard is a question of which no answer is heard.
func unheard(q api.Ask) step { return step{q, ok, false} }

// play holds that a reform asks just these questions, one behind the other, and tells it, as it is then.
func play(t *testing.T, q api.Projection, l ...step) *reform.Reform {
	t.Helper()
	a := reform.New(q)
	for _, s := range l {
		expectAsk(t, a, s.q)
		a.Hear(s.x, s.heard)
	}
	return a
}

// P18.1, P18.2: the chapter's example
func TestExample(t *testing.T) {
	p, q := of(0, []int{0, 1}), of(1, []int{0, 1})
	a := play(t, q, to(layoutAsk(), plan(p)), to(sealAsk(1, 0), number(5)), to(sealAsk(1, 1), number(4)), to(changeAsk(q), plan(q)), to(startAsk(1, 5), ok))
	expectOver(t, a, api.OK)
}

// P18.1: of a good projection it asks the layout first, and is not over.
func TestNew(t *testing.T) {
	for _, x := range pairs() {
		for _, q := range []api.Projection{x.p, x.q} {
			a := reform.New(q)
			expectAsk(t, a, layoutAsk())
			if a.Skip() {
				t.Errorf("at layout it skips")
			}
			expectAsk(t, a, layoutAsk())
		}
	}
}

// P18.1: each way in which a projection is not good; it stays over.
func TestNewForm(t *testing.T) {
	for _, q := range bads() {
		a := reform.New(q)
		expectOver(t, a, api.ErrForm)
		for _, x := range alphabet() {
			a.Hear(x, true)
			a.Hear(x, false)
			expectOver(t, a, api.ErrForm)
		}
	}
}

// P18.2: all that is asked of each change, from New to its end, and in which order: of each question the fields that it has, and no other one.
func TestAsk(t *testing.T) {
	for _, x := range pairs() {
		l := []step{to(layoutAsk(), plan(x.p))}
		for _, k := range unitsOf(x.p) {
			l = append(l, to(sealAsk(x.q.Epoch, k), number(0)))
		}
		l = append(l, to(changeAsk(x.q), plan(x.q)), to(startAsk(x.q.Epoch, 0), ok))
		expectOver(t, play(t, x.q, l...), api.OK)
	}
	// In numbers, once.
	a := play(t, next(), to(layoutAsk(), plan(three())), to(sealAsk(4, 0), number(3)), to(sealAsk(4, 1), number(0)), to(sealAsk(4, 4), number(2)), to(sealAsk(4, 5), number(2)), to(sealAsk(4, 6), number(3)), to(sealAsk(4, 7), number(1)), to(changeAsk(next()), ok), to(startAsk(4, 9), ok))
	expectOver(t, a, api.OK)
}

// event is a thing that a reform goes through.
type event func(b both)

func hears(l ...api.Answer) event { return func(b both) { b.answers(l...) } }

func skips(b both) { b.skip() }

func seals(many int) event {
	return func(b both) {
		for k := range many {
			b.answers(number(k))
		}
	}
}

func misheard(x api.Answer) event { return func(b both) { b.hear(x, false) } }

// way is a place, and what brings a reform to next there.
type way struct {
	at     string
	events []event
}

func (w way) made(t testing.TB) both {
	t.Helper()
	b := made(t, next())
	for _, e := range w.events {
		e(b)
	}
	b.expectAt(w.at)
	return b
}

// ways are ways to each place, the end too. Of three's units 0, 1, 4, 5, 6, 7 the first and the third leave.
func ways() []way {
	begins, changes := hears(plan(three())), hears(plan(next()))
	return []way{
		{"layout", nil}, {"layout", []event{hears(down), misheard(plan(three())), skips}},
		{"seal 0", []event{begins}}, {"seal 0", []event{begins, hears(down, down), misheard(number(3))}},
		{"seal 1", []event{begins, seals(1)}}, {"seal 1", []event{begins, skips}}, {"seal 1", []event{begins, skips, skips}}, {"seal 2", []event{begins, seals(2)}}, {"seal 3", []event{begins, seals(2), skips}}, {"seal 3", []event{begins, seals(3)}}, {"seal 4", []event{begins, seals(4)}},
		{"seal 5", []event{begins, seals(5)}}, {"seal 5", []event{begins, skips, seals(1), skips, seals(2)}},
		{"change", []event{begins, seals(6)}}, {"change", []event{begins, skips, seals(1), skips, seals(3), hears(down), skips, misheard(ok)}}, {"change", []event{begins, seals(6), misheard(sealed)}},
		{"start", []event{begins, seals(6), changes}}, {"start", []event{begins, seals(6), hears(ok)}}, {"start", []event{begins, seals(6), hears(refused(next()))}}, {"start", []event{begins, seals(6), hears(down), changes, hears(down), skips}}, {"start", []event{begins, skips, seals(1), skips, seals(3), changes}},
		{"over", []event{begins, seals(6), changes, hears(ok)}}, {"over", []event{begins, seals(6), changes, hears(elder(4))}}, {"over", []event{begins, seals(6), changes, hears(elder(5))}}, {"over", []event{begins, seals(6), changes, hears(code(api.ErrArg))}},
		{"over", []event{begins, seals(6), hears(refused(three()))}}, {"over", []event{begins, seals(6), hears(sealed)}}, {"over", []event{begins, seals(3), hears(sealed)}}, {"over", []event{begins, hears(code(-1))}}, {"over", []event{hears(ok)}}, {"over", []event{hears(code(api.ErrNoOrder))}},
	}
}

// waysTo are those of them that end at such a place.
func waysTo(at string) []way {
	return slices.DeleteFunc(ways(), func(w way) bool { return !strings.HasPrefix(w.at, at) })
}

// alphabet are answers that come to something at some place, and at others to something else, or nothing.
func alphabet() []api.Answer {
	l := []api.Answer{ok, plan(three()), plan(next()), plan(of(5, next().Chains...)), plan(of(3)), refused(next()), refused(three()), refused(of(4)), elder(3), elder(4), elder(5), elder(0), elder(-4)}
	for _, n := range []int{1, 2, 9, maxPages, maxPages + 1, -1, math.MaxInt, math.MinInt} {
		l = append(l, number(n), api.Answer{N: n, P: three()})
	}
	for _, err := range codes {
		l = append(l, code(err), filled(err, next()), filled(err, three()))
	}
	return l
}

// P18.2: nothing was heard, at each place: the same is asked again, whatever the answer is that nobody hears.
func TestUnheard(t *testing.T) {
	for _, w := range ways() {
		want := show(w.made(t).a)
		for _, x := range alphabet() {
			b := w.made(t)
			for range 3 {
				b.hear(x, false)
				b.expectAt(w.at)
			}
			if got := show(b.a); got != want {
				t.Errorf("%s, and behind what was not heard %s", want, got)
			}
		}
	}
	p, q := of(0, []int{4}), of(1, []int{4})
	a := play(t, q, unheard(layoutAsk()), unheard(layoutAsk()), to(layoutAsk(), plan(p)), unheard(sealAsk(1, 4)), to(sealAsk(1, 4), number(8)), unheard(changeAsk(q)), unheard(changeAsk(q)), to(changeAsk(q), ok), unheard(startAsk(1, 8)), to(startAsk(1, 8), ok))
	expectOver(t, a, api.OK)
}

// P18.2: ErrDown at each place: nothing becomes of it, however often, whatever stands beside.
func TestDown(t *testing.T) {
	for _, w := range ways() {
		want := show(w.made(t).a)
		b := w.made(t)
		for _, x := range []api.Answer{down, filled(api.ErrDown, next()), down, filled(api.ErrDown, three()), {Code: int(api.ErrDown), N: -1, P: of(4), Epoch: 4}} {
			b.answers(x)
			if got := show(b.a); got != want {
				t.Errorf("%s, and behind %s %s", want, told(x), got)
			}
		}
	}
}

// P18.2: at layout a projection behind which it may come next: all its units are sealed, rising; what stands beside counts for nothing.
func TestLayoutNext(t *testing.T) {
	for _, x := range pairs() {
		for _, answer := range []api.Answer{plan(x.p), filled(api.OK, x.p), {P: x.p, N: -1, Mark: -1, Epoch: -1}} {
			b := made(t, x.q)
			b.answers(down, answer)
			for _, k := range unitsOf(x.p) {
				expectAsk(t, b.a, sealAsk(x.q.Epoch, k))
				b.answers(number(0))
			}
			expectAsk(t, b.a, changeAsk(x.q))
		}
	}
}

// P18.2: at layout a projection behind which it may not come next: not good, of another Epoch, with units or chains more or fewer, or in another order
func TestLayoutNotNext(t *testing.T) {
	for _, p := range misses() {
		for _, answer := range []api.Answer{plan(p), filled(api.OK, p)} {
			b := made(t, next())
			b.answers(answer)
			expectOver(t, b.a, api.ErrNext)
			b.answers(plan(three()))
			expectOver(t, b.a, api.ErrNext)
		}
	}
	for _, x := range pairs() {
		for _, p := range []api.Projection{x.q, {}, of(x.p.Epoch), of(x.p.Epoch-1, x.p.Chains...), of(x.p.Epoch+2, x.p.Chains...)} {
			b := made(t, x.q)
			b.answers(plan(p))
			expectOver(t, b.a, api.ErrNext)
		}
	}
}

// P18.2: at layout, each Code but OK and ErrDown ends it with just that, ErrSealed and ErrNext too, whatever stands beside.
func TestLayoutCodes(t *testing.T) {
	expectCodes(t, waysTo("layout"), nil)
}

// expectCodes holds that at these ways each Code ends it with just that, but for OK, ErrDown, and what but tells.
func expectCodes(t *testing.T, l []way, but func(x api.Answer) bool) {
	t.Helper()
	for _, w := range l {
		for _, err := range codes {
			for _, x := range []api.Answer{code(err), filled(err, next()), filled(err, three()), {Code: int(err), N: -1, Epoch: 5, P: of(5)}} {
				if err == api.OK || err == api.ErrDown || but != nil && but(x) {
					continue
				}
				b := w.made(t)
				b.answers(x)
				expectOver(t, b.a, err)
			}
		}
	}
}

// P18.2: at seal, each Code but OK and ErrDown ends it with just that, at each unit, ErrSealed too, of which Epoch ever.
func TestSealCodes(t *testing.T) {
	expectCodes(t, waysTo("seal"), nil)
	for _, w := range waysTo("seal") {
		for _, epoch := range []int{0, 3, 4, 5, -1, math.MaxInt} {
			b := w.made(t)
			b.answers(elder(epoch))
			expectOver(t, b.a, api.ErrSealed)
		}
	}
}

// numbers are what a unit may tell, at the edges: behind how many pages it is.
var numbers = []struct{ n, pages int }{
	{0, 0}, {1, 1}, {2, 2}, {7, 7}, {100, 100}, {maxPages - 1, maxPages - 1}, {maxPages, maxPages}, {maxPages + 1, maxPages}, {maxAddr, maxPages}, {1 << 31, maxPages}, {1 << 32, maxPages}, {1<<32 + 1, maxPages}, {math.MaxInt - 1, maxPages}, {math.MaxInt, maxPages},
	{-1, 0}, {-2, 0}, {-maxPages, 0}, {-1 << 31, 0}, {-1 << 32, 0}, {1 - 1<<32, 0}, {math.MinInt + 1, 0}, {math.MinInt, 0},
}

// P18.2: the tail that Start is asked with, of each unit that has so many pages, while all others have none; what stands beside counts for nothing.
func TestTailOfOne(t *testing.T) {
	for _, x := range pairs() {
		units := unitsOf(x.p)
		for i, chain := range x.p.Chains {
			for _, k := range chain {
				for _, m := range numbers {
					want := 0
					if m.pages > 0 {
						want = (m.pages-1)*len(x.p.Chains) + i + 1
					}
					b := made(t, x.q)
					b.answers(plan(x.p))
					for _, j := range units {
						if j != k {
							b.answers(number(0))
							continue
						}
						answer := filled(api.OK, next())
						answer.N = m.n
						b.answers(answer)
					}
					b.answers(ok)
					expectAsk(t, b.a, startAsk(x.q.Epoch, want))
				}
			}
		}
	}
}

// P18.2, P18.3: the tail of tails that are missing: units that were skipped have none, and the others theirs.
func TestTailWithoutSkipped(t *testing.T) {
	p, q := of(0, []int{0, 1, 2}, []int{3, 4, 5}), of(1, []int{1}, []int{5})
	tails := []int{9, 2, 7, 8, 4, 3}
	for skipped := range 16 {
		b, left := made(t, q), skipped
		b.answers(plan(p))
		most := [2]int{2, 3}
		for k, n := range tails {
			if k == 1 || k == 5 {
				b.answers(number(n))
				continue
			}
			if left&1 == 1 {
				b.skip()
			} else {
				b.answers(number(n))
				most[k/3] = max(most[k/3], n)
			}
			left /= 2
		}
		b.answers(plan(q))
		expectAsk(t, b.a, startAsk(1, max(2*most[0]-1, 2*most[1])))
	}
	// What a unit told ahead of that, and nobody heard, or told with another Code, is no tail either.
	b := made(t, of(1, []int{1}, []int{3}))
	b.answers(plan(of(0, []int{0, 1}, []int{3})))
	b.hear(number(9), false)
	b.answers(api.Answer{Code: int(api.ErrDown), N: 8})
	b.skip()
	b.answers(number(2), number(1), ok)
	expectAsk(t, b.a, startAsk(1, 3))
}

// P18.2: units that stay, leave and come in: the tail is that of the projection that counted, not of the one that is to come.
func TestTailOfElder(t *testing.T) {
	p, q := of(3, []int{7, 2}, []int{5}), of(4, []int{2, 9}, []int{5, 3})
	a := play(t, q, to(layoutAsk(), plan(p)), to(sealAsk(4, 2), number(1)), to(sealAsk(4, 5), number(2)), to(sealAsk(4, 7), number(6)), to(changeAsk(q), plan(q)), to(startAsk(4, 11), down), to(startAsk(4, 11), ok))
	expectOver(t, a, api.OK)
}

// P18.2: at change an OK is one, whatever the projection beside is.
func TestChangeOK(t *testing.T) {
	for _, w := range waysTo("change") {
		for _, p := range append(others(), next()) {
			for _, x := range []api.Answer{plan(p), filled(api.OK, p)} {
				b := w.made(t)
				b.answers(x)
				b.expectAt("start")
			}
		}
	}
}

// P18.2: at change an ErrNext with a projection that is alike goes on, with any other one it is over.
func TestChangeNext(t *testing.T) {
	for _, w := range waysTo("change") {
		for _, x := range []api.Answer{refused(next()), filled(api.ErrNext, next()), {Code: int(api.ErrNext), P: next(), N: 1, Epoch: -9}, {Code: int(api.ErrNext), P: roomy(next())}} {
			b := w.made(t)
			b.answers(x)
			b.expectAt("start")
			b.answers(ok)
			expectOver(t, b.a, api.OK)
		}
		for _, p := range others() {
			for _, x := range []api.Answer{refused(p), filled(api.ErrNext, p)} {
				b := w.made(t)
				b.answers(x)
				expectOver(t, b.a, api.ErrNext)
			}
		}
	}
	for _, x := range pairs() {
		for _, y := range pairs() {
			b := made(t, x.q)
			b.answers(plan(x.p))
			for range unitsOf(x.p) {
				b.answers(ok)
			}
			b.answers(refused(y.q))
			if alike(x.q, y.q) {
				expectAsk(t, b.a, startAsk(x.q.Epoch, 0))
			} else {
				expectOver(t, b.a, api.ErrNext)
			}
		}
	}
}

// P18.2: at change, each other Code ends it with just that, ErrSealed too, whatever stands beside.
func TestChangeCodes(t *testing.T) {
	expectCodes(t, waysTo("change"), func(x api.Answer) bool { return x.Code == int(api.ErrNext) })
}

// P18.2: at start an OK, and an ErrSealed of just the Epoch, end it with OK; one of a lesser or a greater Epoch with ErrSealed
func TestStart(t *testing.T) {
	for _, w := range waysTo("start") {
		for _, x := range []api.Answer{ok, filled(api.OK, next()), filled(api.OK, three()), {Epoch: 9}, elder(4), filled(api.ErrSealed, next()), filled(api.ErrSealed, of(4))} {
			b := w.made(t)
			b.answers(x)
			expectOver(t, b.a, api.OK)
		}
		for _, epoch := range []int{0, 1, 2, 3, 5, 6, -1, -4, maxEpoch, 4 + 1<<32, math.MaxInt, math.MinInt} {
			for _, x := range []api.Answer{elder(epoch), filled(api.ErrSealed, of(epoch, next().Chains...))} {
				b := w.made(t)
				b.answers(x)
				expectOver(t, b.a, api.ErrSealed)
			}
		}
	}
	for _, x := range pairs() {
		for _, epoch := range []int{x.q.Epoch, x.p.Epoch, x.q.Epoch + 1, 0} {
			b := made(t, x.q)
			b.answers(plan(x.p))
			for range unitsOf(x.p) {
				b.answers(ok)
			}
			b.answers(ok, elder(epoch))
			if epoch == x.q.Epoch {
				expectOver(t, b.a, api.OK)
			} else {
				expectOver(t, b.a, api.ErrSealed)
			}
		}
	}
}

// P18.2: at start, each other Code ends it with just that, ErrNext too, whatever stands beside.
func TestStartCodes(t *testing.T) {
	expectCodes(t, waysTo("start"), func(x api.Answer) bool { return x.Code == int(api.ErrSealed) })
}

// P18.3: Skip at each place: done where the unit does not stand in what is to come, and nothing else at all
func TestSkip(t *testing.T) {
	for _, w := range ways() {
		b := w.made(t)
		before := show(b.a)
		want := w.at == "seal 0" || w.at == "seal 2"
		if b.skip() != want || want == (show(b.a) == before) {
			t.Errorf("at %s: %s, and behind Skip %s", w.at, before, show(b.a))
		}
		// The one behind each of them stays.
		if b.skip() {
			t.Errorf("at %s it skips twice", w.at)
		}
	}
}

// P18.3: each unit of each change: what leaves may be skipped, what stays may not; as many as may be, and behind what was not heard, or down.
func TestSkipEach(t *testing.T) {
	for _, x := range pairs() {
		for way := range 4 {
			b := made(t, x.q)
			b.answers(plan(x.p))
			for i, k := range unitsOf(x.p) {
				if way&1 == 1 {
					b.answers(down)
					b.hear(number(9), false)
				}
				expectAsk(t, b.a, sealAsk(x.q.Epoch, k))
				leaves := !slices.Contains(unitsOf(x.q), k)
				if (way&2 == 0 || i%2 == 0) && b.skip() != leaves {
					t.Errorf("unit %d of %v, to %v: it leaves %v, and Skip says otherwise", k, x.p, x.q, leaves)
				}
				if !leaves || way&2 == 2 && i%2 == 1 {
					b.answers(number(i))
				}
			}
			expectAsk(t, b.a, changeAsk(x.q))
			if b.skip() {
				t.Errorf("at change it skips")
			}
			b.answers(ok)
			if b.skip() {
				t.Errorf("at start it skips")
			}
			b.answers(ok)
			expectOver(t, b.a, api.OK)
		}
	}
}

// P18.3: Skip of the first, of the last, of all but one of a chain, and what is asked behind
func TestSkipEdges(t *testing.T) {
	p := of(0, []int{1, 2, 3, 4})
	for _, stays := range p.Chains[0] {
		q := of(1, []int{stays, 9})
		b := made(t, q)
		b.answers(plan(p))
		for k := 1; k <= 4; k++ {
			expectAsk(t, b.a, sealAsk(1, k))
			if b.skip() == (k == stays) {
				t.Errorf("unit %d, and %d stays", k, stays)
			}
			if k == stays {
				expectAsk(t, b.a, sealAsk(1, k))
				b.answers(number(k))
			}
		}
		expectAsk(t, b.a, changeAsk(q))
		b.answers(ok)
		expectAsk(t, b.a, startAsk(1, stays))
	}
}

// P18.2: once it is over, it stays so, whatever is heard.
func TestOverStays(t *testing.T) {
	for _, w := range waysTo("over") {
		want := show(w.made(t).a)
		for _, x := range alphabet() {
			b := w.made(t)
			b.hear(x, false)
			b.answers(x, x, plan(three()), number(1), ok, refused(next()), elder(4))
			b.expectAt("over")
			if got := show(b.a); got != want {
				t.Errorf("%s, and behind %s %s", want, told(x), got)
			}
		}
	}
}

// P18.1, P18.2: asking changes nothing, nor does telling, nor a Skip that tells false, at each place.
func TestAskChangesNothing(t *testing.T) {
	for _, w := range ways() {
		b := w.made(t)
		want := show(b.a)
		for range 5 {
			b.a.Ask()
			b.a.Over()
			if w.at != "seal 0" && w.at != "seal 2" {
				b.a.Skip()
			}
			if got := show(b.a); got != want {
				t.Fatalf("%s: %s, and behind a question %s", w.at, want, got)
			}
		}
		b.answers(plan(three()), number(1), number(2), number(3), number(4), number(5), number(6), ok, ok)
	}
}

// P18.1: all calls of nil
func TestNil(t *testing.T) {
	var a *reform.Reform
	for _, x := range alphabet() {
		a.Hear(x, true)
		a.Hear(x, false)
		if a.Skip() {
			t.Errorf("nil skips")
		}
		expectOver(t, a, api.ErrArg)
	}
}

// P18.1 to P18.3: all answers at all places, and all short ways from there, heard and not, with Skips between, held against the words
func TestAllAnswers(t *testing.T) {
	onward := []api.Answer{number(2), number(7), number(-1), number(4), number(1), number(5), refused(next()), elder(4)}
	for _, w := range ways() {
		for _, x := range alphabet() {
			b := w.made(t)
			b.answers(x)
			b.skip()
			b.answers(onward...)
			b.answers(x)
		}
	}
	short := []api.Answer{number(9), plan(three()), plan(next()), refused(next()), refused(three()), elder(4), elder(5), filled(api.ErrDown, next()), code(-1)}
	for _, w := range ways() {
		for _, x := range short {
			for _, y := range short {
				for _, z := range short {
					for _, unheard := range []int{0, 1, 2, 4} {
						b := w.made(t)
						b.hear(x, unheard&1 == 0)
						b.skip()
						b.hear(y, unheard&2 == 0)
						b.hear(z, unheard&4 == 0)
						b.skip()
					}
				}
			}
		}
	}
}
