package tail_test

import (
	"math"
	"testing"

	"escheat/api"
	"escheat/tail"
)

// step is a question that must be asked, and what is heard of it.
type step struct {
	q     api.Ask
	x     api.Answer
	heard bool
}

// to is a question that is answered.
func to(q api.Ask, x api.Answer) step { return step{q, x, true} }

// unheard is a question of which no answer is heard.
func unheard(q api.Ask) step { return step{q, api.Answer{}, false} }

// play holds that a tail asks just these questions, one behind the other, and tells it, as it is then.
func play(t *testing.T, p api.Projection, l ...step) *tail.Tail {
	t.Helper()
	a := tail.New(p)
	for _, s := range l {
		expectAsk(t, a, s.q)
		a.Hear(s.x, s.heard)
	}
	return a
}

// P17.1, P17.2: the chapter's example
func TestExample(t *testing.T) {
	expectOver(t, play(t, of(0, []int{0, 1}), to(tailAsk(0), number(0))), 0, api.OK)
}

// P17.1: of a good projection it asks the sequencer first, and is not over.
func TestNew(t *testing.T) {
	for _, p := range goods() {
		a := tail.New(p)
		expectAsk(t, a, tailAsk(p.Epoch))
		expectP(t, a, p)
		a.Hear(number(7), true)
		expectOver(t, a, 7, api.OK)
		expectP(t, a, p)
	}
}

// P17.1: each way in which a projection is not good; P tells it all the same, and it stays over.
func TestNewArg(t *testing.T) {
	for _, p := range bads() {
		a := tail.New(p)
		expectOver(t, a, 0, api.ErrArg)
		expectP(t, a, p)
		for _, x := range []api.Answer{number(0), number(5), plan(three()), sealed, down, noOrder, full} {
			a.Hear(x, true)
			a.Hear(x, false)
			expectOver(t, a, 0, api.ErrArg)
			expectP(t, a, p)
		}
	}
}

// P17.1: what is asked: at tail the Kind and the Epoch of its projection, the one that was heard last; at layout the Kind alone
func TestAsk(t *testing.T) {
	for _, p := range goods() {
		for _, q := range goods() {
			a := play(t, p, to(tailAsk(p.Epoch), sealed), to(layoutAsk(), plan(q)), to(tailAsk(q.Epoch), sealed), to(layoutAsk(), plan(p)), to(tailAsk(p.Epoch), sealed), to(layoutAsk(), plan(q)))
			expectAsk(t, a, tailAsk(q.Epoch))
			expectP(t, a, q)
			a.Hear(number(9), true)
			expectOver(t, a, 9, api.OK)
			expectP(t, a, q)
		}
	}
}

// way is a place, and answers that bring a tail of three there.
type way struct {
	name    string
	answers []api.Answer
}

func (w way) made(t testing.TB) both {
	t.Helper()
	b := made(t, three())
	b.answers(w.answers...)
	b.expectAt(w.name)
	return b
}

// ways are ways to each place, all with three as their projection.
func ways() []way {
	return []way{
		{"tail", nil}, {"tail", []api.Answer{noOrder, down}}, {"tail", []api.Answer{sealed, plan(three())}}, {"tail", []api.Answer{sealed, plan(next()), sealed, plan(three())}},
		{"layout", []api.Answer{sealed}}, {"layout", []api.Answer{sealed, sealed}}, {"layout", []api.Answer{noOrder, sealed, down, noOrder, full, plan(of(3)), number(4)}},
		{"layout", []api.Answer{sealed, plan(next()), sealed, plan(three()), sealed}},
		{"over", []api.Answer{number(0)}}, {"over", []api.Answer{number(13)}}, {"over", []api.Answer{number(maxAddr)}}, {"over", []api.Answer{sealed, plan(three()), number(5)}},
		{"over", []api.Answer{number(-1)}}, {"over", []api.Answer{full}}, {"over", []api.Answer{code(-7)}}, {"over", []api.Answer{sealed, plan(three()), code(api.ErrArg)}},
	}
}

// numbers are those that a sequencer may tell, at the edges, and those that are no tail.
var (
	tails   = []int{0, 1, 2, 3, 5, 11, 100, 4095, 4096, 4097, 8191, 8192, 12288, maxAddr / 3, maxAddr - 2, maxAddr - 1, maxAddr}
	noTails = []int{-1, -2, -maxAddr, maxAddr + 1, maxAddr + 2, 2 * maxAddr, 1 << 16, 1 << 31, -1 << 31, 1 << 32, 1<<32 + 1, 1<<32 + maxAddr, -1 << 32, math.MaxInt, math.MaxInt - 1, math.MinInt, math.MinInt + 1}
)

// alphabet is answers of each Code, and those that differ in more than it where that counts at some place.
func alphabet() []api.Answer {
	var l []api.Answer
	for _, err := range codes {
		l = append(l, code(err), filled(err))
	}
	for _, p := range append(bads(), goods()...) {
		l = append(l, api.Answer{N: len(l), P: p}, api.Answer{N: -len(l), Data: "r", P: p})
	}
	for _, n := range append(tails, noTails...) {
		l = append(l, number(n), api.Answer{N: n, P: next()}, api.Answer{N: n, P: three()})
	}
	return l
}

// P17.2: nothing was heard, at each place: the same is asked again, whatever the answer is that nobody hears.
func TestUnheard(t *testing.T) {
	for _, w := range ways() {
		want := show(w.made(t).a)
		for _, x := range alphabet() {
			b := w.made(t)
			for range 3 {
				b.hear(x, false)
				b.expectAt(w.name)
			}
			if got := show(b.a); got != want {
				t.Errorf("%s, and behind what was not heard %s", want, got)
			}
		}
	}
	a := play(t, three(), unheard(tailAsk(3)), unheard(tailAsk(3)), to(tailAsk(3), sealed), unheard(layoutAsk()), unheard(layoutAsk()), to(layoutAsk(), plan(next())), unheard(tailAsk(4)), to(tailAsk(4), number(8)))
	expectOver(t, a, 8, api.OK)
}

// P17.2: ErrDown and ErrNoOrder at each place: nothing becomes of it, however often, whatever stands beside.
func TestWaits(t *testing.T) {
	for _, w := range ways() {
		want := show(w.made(t).a)
		for _, err := range []api.Errno{api.ErrDown, api.ErrNoOrder} {
			b := w.made(t)
			for _, x := range []api.Answer{code(err), filled(err), code(err), {Code: int(err), N: -1, P: of(3, []int{9})}} {
				b.answers(x)
				if got := show(b.a); got != want {
					t.Errorf("%s, and behind %s %s", want, told(x), got)
				}
			}
		}
	}
}

// P17.2: ErrSealed at each place: the layout is asked, and its projection stays, whatever stands beside.
func TestSealed(t *testing.T) {
	for _, w := range ways() {
		for _, x := range []api.Answer{sealed, filled(api.ErrSealed), {Code: int(api.ErrSealed), P: three()}, {Code: int(api.ErrSealed), N: -1}} {
			b := w.made(t)
			b.answers(x)
			if w.name != "over" {
				expectAsk(t, b.a, layoutAsk())
			}
			expectP(t, b.a, three())
			b.answers(x, plan(next()), number(6))
		}
	}
}

// P17.2: at layout a good projection is taken, whatever its Epoch; with what is none it asks the same again.
func TestLayout(t *testing.T) {
	for _, w := range ways()[4:8] {
		for _, q := range append(goods(), of(3, []int{9}), of(3, []int{5, 7}, []int{6}, []int{0, 1}), of(2, three().Chains...), of(4, three().Chains...), of(0, []int{1}), of(maxEpoch, []int{1, 2})) {
			b := w.made(t)
			b.answers(plan(q))
			expectAsk(t, b.a, tailAsk(q.Epoch))
			expectP(t, b.a, q)
			b.answers(api.Answer{N: 5, P: of(6, []int{9})})
			expectOver(t, b.a, 5, api.OK)
			expectP(t, b.a, q)
		}
		for _, x := range noPlans() {
			b := w.made(t)
			b.answers(x, x)
			expectAsk(t, b.a, layoutAsk())
			expectP(t, b.a, three())
			b.answers(plan(next()))
			expectAsk(t, b.a, tailAsk(4))
			expectP(t, b.a, next())
		}
	}
}

// noPlans are answers by which no projection is told: of one that is not good, or with any Code.
func noPlans() []api.Answer {
	var l []api.Answer
	for _, q := range bads() {
		l = append(l, plan(q), api.Answer{N: 5, P: q})
	}
	for _, err := range codes[1:] {
		l = append(l, code(err), filled(err))
	}
	return append(l, number(0), number(5), number(-1), number(maxAddr+1))
}

// P17.2: at tail, numbers with OK: what is a tail, MaxAddr too, and what is none; what else stands beside counts for nothing.
func TestNumbers(t *testing.T) {
	for _, w := range ways()[:4] {
		for _, beside := range []api.Answer{{}, {Data: "r", P: next(), Mark: 3, Size: 4, Epoch: 9}, {P: of(3)}} {
			for _, n := range tails {
				b := w.made(t)
				beside.N = n
				b.answers(beside)
				expectOver(t, b.a, n, api.OK)
				expectP(t, b.a, three())
			}
			for _, n := range noTails {
				b := w.made(t)
				beside.N = n
				b.answers(beside)
				expectOver(t, b.a, 0, api.ErrArg)
				expectP(t, b.a, three())
			}
		}
	}
}

// P17.2: at tail, each Code but OK: where it goes, or that it is over with just that, and no address, whatever N is
func TestCodes(t *testing.T) {
	for _, w := range ways()[:4] {
		for _, err := range codes[1:] {
			for _, x := range []api.Answer{code(err), filled(err), {Code: int(err), N: -1}, {Code: int(err), N: maxAddr}, {Code: int(err), N: maxAddr + 1}, {Code: int(err), N: math.MinInt}} {
				b := w.made(t)
				b.answers(x)
				expectP(t, b.a, three())
				switch err {
				case api.ErrDown, api.ErrNoOrder:
					expectAsk(t, b.a, tailAsk(3))
				case api.ErrSealed:
					expectAsk(t, b.a, layoutAsk())
				default:
					expectOver(t, b.a, 0, err)
				}
			}
		}
	}
}

// P17.2: once it is over, it stays so, whatever is heard.
func TestOverStays(t *testing.T) {
	for _, w := range ways()[8:] {
		want := show(w.made(t).a)
		for _, x := range alphabet() {
			b := w.made(t)
			b.hear(x, false)
			b.answers(x, x, sealed, plan(next()), number(1), full, number(-1))
			b.expectAt("over")
			if got := show(b.a); got != want {
				t.Errorf("%s, and behind %s %s", want, told(x), got)
			}
		}
	}
}

// P17.1: asking changes nothing, nor does telling, at each place.
func TestAskChangesNothing(t *testing.T) {
	for _, w := range ways() {
		b := w.made(t)
		want := show(b.a)
		for range 5 {
			b.a.Ask()
			b.a.Over()
			b.a.P()
			if got := show(b.a); got != want {
				t.Fatalf("%s: %s, and behind a question %s", w.name, want, got)
			}
		}
		b.answers(sealed, plan(next()), number(1))
	}
}

// P17.1: all calls of nil
func TestNil(t *testing.T) {
	var a *tail.Tail
	for _, x := range alphabet() {
		a.Hear(x, true)
		a.Hear(x, false)
		expectOver(t, a, 0, api.ErrArg)
		if p := a.P(); p.Epoch != 0 || len(p.Chains) != 0 {
			t.Errorf("P of nil is %v", p)
		}
	}
}

// P17.1, P17.2: all answers at all places, and all short ways from there, heard and not, held against the words
func TestAllAnswers(t *testing.T) {
	short := []api.Answer{number(0), number(maxAddr), number(-1), plan(next()), {N: 13, P: of(3, []int{9, 8})}, plan(of(3)), sealed, down, noOrder, full, filled(api.ErrSealed), code(-1)}
	for _, w := range ways() {
		for _, x := range alphabet() {
			b := w.made(t)
			b.answers(x)
			b.answers(short[3:]...)
			b.answers(short...)
		}
		for _, x := range short {
			for _, y := range short {
				for _, z := range short {
					for heard := range 8 {
						b := w.made(t)
						b.hear(x, heard&1 == 0)
						b.hear(y, heard&2 == 0)
						b.hear(z, heard&4 == 0)
					}
				}
			}
		}
	}
}
