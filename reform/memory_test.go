package reform_test

import (
	"reflect"
	"runtime"
	"slices"
	"strings"
	"testing"

	"escheat/api"
	"escheat/reform"
)

// scribbleOver writes over all lists of p, and their spare room.
func scribbleOver(p api.Projection) {
	l := p.Chains[:cap(p.Chains)]
	for i, chain := range l {
		chain = chain[:cap(chain)]
		for j := range chain {
			chain[j] = 14
		}
		l[i] = []int{13}
	}
}

// roomy is p in lists that have spare room, in which there is something.
func roomy(p api.Projection) api.Projection {
	q := of(p.Epoch, make([][]int, 0, len(p.Chains)+3)...)
	for _, chain := range append(slices.Clone(p.Chains), []int{1, 2}, []int{3}, nil) {
		q.Chains = append(q.Chains, append(append(make([]int, 0, len(chain)+3), chain...), 4, 5, 6)[:len(chain)])
	}
	q.Chains = q.Chains[:len(p.Chains)]
	return q
}

// room is all of p with the spare room of its lists.
func room(p api.Projection) api.Projection {
	q := of(p.Epoch, slices.Clone(p.Chains[:cap(p.Chains)])...)
	for i, chain := range q.Chains {
		q.Chains[i] = slices.Clone(chain[:cap(chain)])
	}
	return q
}

// expectRoom holds that p is as it was, its spare room included.
func expectRoom(t *testing.T, p, before api.Projection) {
	t.Helper()
	if got := room(p); !reflect.DeepEqual(got, before) {
		t.Errorf("what was handed over is %v, not %v", got, before)
	}
}

// wholeWay is what brings a reform from p to q through each place to its end.
func wholeWay(x pair) []api.Answer {
	l := []api.Answer{down, plan(x.p)}
	for i := range unitsOf(x.p) {
		l = append(l, down, number(i%3))
	}
	return append(l, down, refused(x.q), down, elder(x.q.Epoch), ok)
}

// P18.1: what New was handed is the caller's, whatever is heard, asked and skipped then, and may be written over, whether it is good or not.
func TestHandedToNew(t *testing.T) {
	l := pairs()
	for _, q := range bads() {
		l = append(l, pair{three(), q})
	}
	for _, x := range l {
		for way := range 4 {
			given := roomy(x.q)
			before := room(given)
			b := both{t, reform.New(given), newModel(x.q)}
			if way&1 == 1 {
				scribbleOver(given)
				before = room(given)
			}
			b.same()
			for _, y := range wholeWay(x) {
				if way&2 == 2 {
					b.skip()
				}
				b.answers(y)
				expectRoom(t, given, before)
			}
			if b.m.at != "over" {
				t.Errorf("it is at %+v", *b.m)
			}
		}
	}
}

// P18.2: what Hear was handed is the caller's, at each place, and may be written over, its spare room too: what counted then stays as it was heard.
func TestHandedToHear(t *testing.T) {
	for _, w := range ways() {
		for _, x := range alphabet() {
			b := w.made(t)
			x.P = roomy(x.P)
			before := room(x.P)
			b.hear(x, false)
			b.hear(x, true)
			expectRoom(t, x.P, before)
			scribbleOver(x.P)
			b.same()
			before = room(x.P)
			for _, y := range wholeWay(pair{three(), next()})[2:] {
				b.skip()
				b.answers(y)
				expectRoom(t, x.P, before)
			}
		}
	}
	for _, x := range pairs() {
		given := roomy(x.p)
		b := made(t, x.q)
		b.answers(plan(given))
		scribbleOver(given)
		before := room(given)
		b.same()
		for _, y := range wholeWay(x)[2:] {
			b.answers(y)
			expectRoom(t, given, before)
		}
		expectOver(t, b.a, api.OK)
	}
}

// P18.2: what Ask told may be written over, its spare room too, and gone on with: it asks the same again; what it told is not changed by what comes behind it.
func TestAskApart(t *testing.T) {
	for _, w := range ways() {
		b := w.made(t)
		kept, asks := b.a.Ask()
		want, _ := b.m.ask()
		for _, x := range wholeWay(pair{three(), next()}) {
			q, _ := b.a.Ask()
			q.P.Chains = append(q.P.Chains, []int{9})
			for i := range q.P.Chains {
				q.P.Chains[i] = append(q.P.Chains[i], 9)
			}
			scribbleOver(q.P)
			q, _ = b.a.Ask()
			scribbleOver(q.P)
			q.Kind, q.Unit, q.Epoch, q.Page, q.Data, q.P = 1, 9, 9, 9, "r", three()
			b.same()
			b.answers(x)
		}
		if !sameAsk(kept, want) {
			t.Errorf("what Ask told, %v, is %s, not %s", asks, asked(kept), asked(want))
		}
	}
}

// P18.1, P18.2: no two lists that Ask told share memory, with each other or with what was handed over, their spare room included.
func TestAskLists(t *testing.T) {
	for _, x := range pairs() {
		given, heard := roomy(x.q), roomy(x.p)
		a, b := reform.New(given), reform.New(given)
		all := []api.Projection{given, heard}
		for _, y := range append([]api.Answer{plan(heard)}, wholeWay(x)[2:]...) {
			for _, r := range []*reform.Reform{a, a, b} {
				q, _ := r.Ask()
				all = append(all, q.P)
			}
			a.Hear(y, true)
			b.Hear(y, true)
		}
		expectOver(t, a, api.OK)
		expectNoneShared(t, all)
	}
}

func expectNoneShared(t *testing.T, all []api.Projection) {
	t.Helper()
	met, lists := map[*int]int{}, map[*[]int]int{}
	for _, q := range all {
		chains := q.Chains[:cap(q.Chains)]
		for i, chain := range chains {
			lists[&chains[i]]++
			chain = chain[:cap(chain)]
			for j := range chain {
				met[&chain[j]]++
			}
		}
	}
	for _, times := range lists {
		if times > 1 {
			t.Errorf("two lists of chains are one")
		}
	}
	for _, times := range met {
		if times > 1 {
			t.Errorf("two chains are one")
		}
	}
}

// P18.2: no more is kept than is asked yet: not what stands beside a projection, or a number, not its spare room; and of what is over nothing but the error.
func TestNothingKept(t *testing.T) {
	const size, many = 1 << 23, 2000
	before := inUse()
	var l []*reform.Reform
	for _, w := range ways() {
		for _, err := range []api.Errno{api.OK, api.ErrSealed, api.ErrDown, api.ErrNext} {
			for _, p := range []api.Projection{three(), next()} {
				b := w.made(t)
				x := filled(err, p)
				x.Data = strings.Repeat("x", size)[:5]
				b.a.Hear(x, true)
				l = append(l, b.a)
			}
		}
	}
	for range many {
		p := of(4, append(make([][]int, 0, 100), append(make([]int, 0, 1000), 5))...)
		q := of(5, append(make([][]int, 0, 100), append(make([]int, 0, 1000), 5))...)
		p.Chains, q.Chains = p.Chains[:1:100], q.Chains[:1:100]
		a := reform.New(q)
		a.Hear(plan(p), true)
		a.Hear(number(3), true)
		a.Hear(refused(q), true)
		l = append(l, a)
	}
	if more := inUse() - before; more > size/2 {
		t.Errorf("there are %d bytes", more)
	}
	runtime.KeepAlive(l)

	before = inUse()
	var over []*reform.Reform
	for range 20 * many {
		a := reform.New(next())
		for _, x := range wholeWay(pair{three(), next()}) {
			a.Hear(x, true)
		}
		over = append(over, a)
	}
	if each := (inUse() - before) / (20 * many); each > 250 {
		t.Errorf("of one that is over there are %d bytes", each)
	}
	runtime.KeepAlive(over)

	// Nor a projection that is not good.
	before = inUse()
	bad := []*reform.Reform{reform.New(of(3, make([]int, size))), reform.New(next()), reform.New(next())}
	bad[1].Hear(plan(of(3, make([]int, size))), true)
	bad[2].Hear(plan(of(3, make([][]int, size)...)), true)
	if more := inUse() - before; more > size {
		t.Errorf("of those that are over there are %d bytes", more)
	}
	runtime.KeepAlive(bad)
}

// inUse is how many bytes are in use.
func inUse() int {
	var m runtime.MemStats
	runtime.GC()
	runtime.GC()
	runtime.ReadMemStats(&m)
	return int(m.HeapAlloc)
}
