package layout_test

import (
	"reflect"
	"slices"
	"testing"

	"escheat/api"
	"escheat/layout"
)

// scribble writes v over all numbers of l, and its spare room.
func scribble(l []int, v int) {
	l = l[:cap(l)]
	for i := range l {
		l[i] = v
	}
}

// scribbleOver writes over all lists of p, and their spare room.
func scribbleOver(p api.Projection) {
	l := p.Chains[:cap(p.Chains)]
	for i, chain := range l {
		scribble(chain, 14)
		l[i] = []int{13}
	}
}

// roomy is p in lists that have spare room, in which there is something.
func roomy(p api.Projection) api.Projection {
	q := of(p.Epoch, make([][]int, 0, len(p.Chains)+3)...)
	for _, chain := range append(slices.Clone(p.Chains), []int{1, 2}, []int{3}, nil) {
		q.Chains = append(q.Chains, append(append(make([]int, 0, len(chain)+3), chain...), 4, 5, 6)[:len(chain)])
	}
	q.Chains = q.Chains[:len(p.Chains)]
	return q
}

// room is all of p with the spare room of its lists.
func room(p api.Projection) api.Projection {
	q := of(p.Epoch, slices.Clone(p.Chains[:cap(p.Chains)])...)
	for i, chain := range q.Chains {
		q.Chains[i] = slices.Clone(chain[:cap(chain)])
	}
	return q
}

// P12.1, P12.2: what New and Change were handed is the caller's, whatever they did with it.
func TestHandedIn(t *testing.T) {
	for _, other := range []api.Projection{
		of(2, []int{1, 8}, []int{2}), of(1, []int{0, 1}, []int{8, 2}), of(1, []int{0}), of(1, []int{0, 1, 20}, []int{2}), of(-1), {},
	} {
		first := roomy(of(0, []int{0, 1}, []int{2, 3}))
		before := room(first)
		b := both{t, begun(t, first), modelOf(first)}
		b.same()
		expectRoom(t, first, before)
		scribbleOver(first)
		b.same()
		for epoch := 1; epoch < 5; epoch++ {
			for _, p := range []api.Projection{other, of(epoch, []int{1, 3 + epoch}, []int{2, 3})} {
				p = roomy(p)
				before := room(p)
				b.do(changeOf(p))
				expectRoom(t, p, before)
				scribbleOver(p)
				b.same()
			}
			b.do(markOf(epoch, epoch, epoch))
		}
		if len(b.m.counted) < 3 {
			t.Errorf("only %v counted", b.m.counted)
		}
	}
	for _, p := range bads() {
		p = roomy(p)
		before := room(p)
		layout.New(p)
		expectRoom(t, p, before)
	}
}

// expectRoom holds that p is as it was, its spare room included.
func expectRoom(t *testing.T, p, before api.Projection) {
	t.Helper()
	if got := room(p); !reflect.DeepEqual(got, before) {
		t.Errorf("what was handed in is %v, not %v", got, before)
	}
}

// P12.2: what stands in spare room does not count.
func TestSpareRoom(t *testing.T) {
	b := made(t, roomy(of(0, []int{0, 1}, []int{2, 3})))
	for epoch := 1; epoch < 5; epoch++ {
		b.do(changeOf(roomy(of(epoch, []int{0}, []int{2}, []int{7}))))
		b.do(changeOf(roomy(of(epoch, []int{0, 11 - epoch}, []int{2}))))
	}
	expectUsed(t, b.l, 0, 1, 2, 3, 7, 8, 9, 10)
}

// P12.1, P12.2: what was told is the caller's own: nobody else sees it written over.
func TestTold(t *testing.T) {
	first, next := of(3, []int{0, 1}, []int{2}), of(4, []int{1, 5}, []int{2, 4})
	b := made(t, first)
	tells := []func() api.Projection{
		b.l.Now,
		func() api.Projection { return b.do(lookOf()).P },
		func() api.Projection { return b.do(changeOf(first)).P },
		func() api.Projection { return b.do(changeOf(next)).P },
		func() api.Projection { return b.do(changeOf(next)).P },
		func() api.Projection { return b.do(lookOf()).P },
		func() api.Projection { return b.do(changeOf(of(5, []int{1, 0}, []int{2}))).P },
		b.l.Now,
	}
	var kept []api.Projection
	for _, tell := range tells {
		kept = append(kept, tell())
		other := tell()
		expectApart(t, other)
		scribbleOver(other)
		b.same()
	}
	for i, p := range kept {
		want := first
		if i > 2 {
			want = next
		}
		if !reflect.DeepEqual(p, want) {
			t.Errorf("what was told as %v is %v", want, p)
		}
		scribbleOver(p)
	}
	b.same()
	if !reflect.DeepEqual(next, of(4, []int{1, 5}, []int{2, 4})) {
		t.Errorf("what was handed in is %v", next)
	}
}

// expectApart holds that no two lists of p share memory, their spare room included.
func expectApart(t *testing.T, p api.Projection) {
	t.Helper()
	for i, chain := range p.Chains {
		scribble(chain, i)
	}
	for i, chain := range p.Chains {
		if slices.ContainsFunc(chain[:cap(chain)], func(u int) bool { return u != i }) {
			t.Errorf("chain %d of %d shares memory with another one", i, len(p.Chains))
		}
	}
}

// P12.1: what Used tells is the caller's own.
func TestUsedIsNew(t *testing.T) {
	b := made(t, of(3, []int{9, 1}, []int{2}))
	for i := range 4 {
		one, other := b.l.Used(), b.l.Used()
		want := slices.Clone(other)
		scribble(one, 14)
		if !slices.Equal(other, want) {
			t.Errorf("two answers of Used share memory: %v, not %v", other, want)
		}
		b.same()
		b.do(changeOf(of(4+i, []int{9, 10 + i}, []int{2})))
		if !slices.Equal(other, want) {
			t.Errorf("a Change is seen in what Used told ahead of it: %v, not %v", other, want)
		}
	}
	expectUsed(t, b.l, 1, 2, 9, 10, 11, 12, 13)
}
