package tail_test

import (
	"reflect"
	"runtime"
	"slices"
	"strings"
	"testing"

	"escheat/api"
	"escheat/tail"
)

// scribbleOver writes over all lists of p, and their spare room.
func scribbleOver(p api.Projection) {
	l := p.Chains[:cap(p.Chains)]
	for i, chain := range l {
		chain = chain[:cap(chain)]
		for j := range chain {
			chain[j] = 14
		}
		l[i] = []int{13}
	}
}

// roomy is p in lists that have spare room, in which there is something.
func roomy(p api.Projection) api.Projection {
	q := of(p.Epoch, make([][]int, 0, len(p.Chains)+3)...)
	for _, chain := range append(slices.Clone(p.Chains), []int{1, 2}, []int{3}, nil) {
		q.Chains = append(q.Chains, append(append(make([]int, 0, len(chain)+3), chain...), 4, 5, 6)[:len(chain)])
	}
	q.Chains = q.Chains[:len(p.Chains)]
	return q
}

// room is all of p with the spare room of its lists.
func room(p api.Projection) api.Projection {
	q := of(p.Epoch, slices.Clone(p.Chains[:cap(p.Chains)])...)
	for i, chain := range q.Chains {
		q.Chains[i] = slices.Clone(chain[:cap(chain)])
	}
	return q
}

// expectRoom holds that p is as it was, its spare room included.
func expectRoom(t *testing.T, p, before api.Projection) {
	t.Helper()
	if got := room(p); !reflect.DeepEqual(got, before) {
		t.Errorf("what was handed over is %v, not %v", got, before)
	}
}

// onward is what brings a tail through each place to its end.
func onward() []api.Answer {
	return []api.Answer{noOrder, down, sealed, down, plan(of(3)), plan(next()), noOrder, sealed, plan(three()), number(6), plan(next()), sealed}
}

// P17.1: what New was handed is the caller's, whatever is heard and asked then, and may be written over, whether it is good or not.
func TestHandedToNew(t *testing.T) {
	for _, p := range slices.Concat(goods(), bads()) {
		for _, over := range []int{0, 1} {
			given := roomy(p)
			before := room(given)
			b := both{t, tail.New(given), newModel(p)}
			if over == 1 {
				scribbleOver(given)
				before = room(given)
			}
			b.same()
			for _, x := range onward() {
				b.answers(x)
				expectRoom(t, given, before)
			}
		}
	}
}

// P17.2: what Hear was handed is the caller's, at each place, and may be written over, its spare room too: what is its projection then stays as it was heard.
func TestHandedToHear(t *testing.T) {
	for _, w := range ways() {
		for _, x := range alphabet() {
			b := w.made(t)
			x.P = roomy(x.P)
			before := room(x.P)
			b.hear(x, false)
			b.hear(x, true)
			expectRoom(t, x.P, before)
			scribbleOver(x.P)
			b.same()
			before = room(x.P)
			for _, y := range onward() {
				b.answers(y)
				expectRoom(t, x.P, before)
			}
		}
	}
}

// P17.1: what P told may be written over, its spare room too, and gone on with; what it told is not changed by what comes behind it.
func TestPApart(t *testing.T) {
	for _, w := range ways() {
		b := w.made(t)
		kept := b.a.P()
		for _, x := range onward() {
			p := b.a.P()
			p.Chains = append(p.Chains, []int{9})
			for i := range p.Chains {
				p.Chains[i] = append(p.Chains[i], 9)
			}
			scribbleOver(p)
			scribbleOver(b.a.P())
			b.same()
			b.answers(x)
		}
		if !alike(kept, three()) {
			t.Errorf("what P told is %v", kept)
		}
		scribbleOver(kept)
		b.same()
	}
}

// P17.1: no two lists that P told share memory, with each other or with what was handed over, their spare room included.
func TestPLists(t *testing.T) {
	for _, p := range slices.Concat(goods(), bads()) {
		given, heard := roomy(p), roomy(next())
		a, b := tail.New(given), tail.New(given)
		told := []api.Projection{given, heard, a.P(), a.P(), b.P()}
		for _, x := range []api.Answer{sealed, plan(heard), number(5)} {
			a.Hear(x, true)
			b.Hear(x, true)
		}
		expectNoneShared(t, append(told, a.P(), a.P(), b.P()))
	}
}

func expectNoneShared(t *testing.T, all []api.Projection) {
	t.Helper()
	met, lists := map[*int]int{}, map[*[]int]int{}
	for _, q := range all {
		chains := q.Chains[:cap(q.Chains)]
		for i, chain := range chains {
			lists[&chains[i]]++
			chain = chain[:cap(chain)]
			for j := range chain {
				met[&chain[j]]++
			}
		}
	}
	for _, times := range lists {
		if times > 1 {
			t.Errorf("two lists of chains are one")
		}
	}
	for _, times := range met {
		if times > 1 {
			t.Errorf("two chains are one")
		}
	}
}

// P17.1: what Ask told may be written over: it asks the same again.
func TestAskApart(t *testing.T) {
	for _, w := range ways() {
		b := w.made(t)
		q, _ := b.a.Ask()
		q.Kind, q.Epoch, q.Data, q.P = 1, 9, "r", next()
		b.same()
		b.answers(onward()...)
	}
}

// P17.2: no more is kept than is told yet: not what stands beside a number, or beside a projection.
func TestNothingKept(t *testing.T) {
	const size, many = 1 << 23, 2000
	before := inUse()
	var l []*tail.Tail
	for _, w := range ways() {
		for _, err := range []api.Errno{api.OK, api.ErrSealed, api.ErrDown, api.ErrNoOrder, api.ErrFull} {
			b := w.made(t)
			b.a.Hear(api.Answer{Code: int(err), N: 4, Data: strings.Repeat("x", size)[:5], P: next()}, true)
			l = append(l, b.a)
		}
	}
	for range many {
		a := tail.New(three())
		p := of(4, append(make([][]int, 0, 100), append(make([]int, 0, 1000), 5))...)
		p.Chains = p.Chains[:1:100]
		a.Hear(sealed, true)
		a.Hear(plan(p), true)
		l = append(l, a)
	}
	if more := inUse() - before; more > size/2 {
		t.Errorf("there are %d bytes", more)
	}
	runtime.KeepAlive(l)
}

// inUse is how many bytes are in use.
func inUse() int {
	var m runtime.MemStats
	runtime.GC()
	runtime.GC()
	runtime.ReadMemStats(&m)
	return int(m.HeapAlloc)
}
