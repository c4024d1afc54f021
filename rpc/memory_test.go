package rpc_test

import (
	"reflect"
	"slices"
	"testing"
	"unsafe"

	"escheat/api"
	"escheat/rpc"
)

// scribbleOver writes over all lists of p, and their spare room.
func scribbleOver(p api.Projection) {
	l := p.Chains[:cap(p.Chains)]
	for i, chain := range l {
		chain = chain[:cap(chain)]
		for j := range chain {
			chain[j] = 14
		}
		l[i] = []int{13}
	}
}

// roomy is p in lists that have spare room, in which there is something.
func roomy(p api.Projection) api.Projection {
	q := of(p.Epoch, make([][]int, 0, len(p.Chains)+3)...)
	for _, chain := range append(slices.Clone(p.Chains), []int{1, 2}, []int{3}, nil) {
		q.Chains = append(q.Chains, append(append(make([]int, 0, len(chain)+3), chain...), 4, 5, 6)[:len(chain)])
	}
	q.Chains = q.Chains[:len(p.Chains)]
	return q
}

// room is all of p with the spare room of its lists.
func room(p api.Projection) api.Projection {
	q := of(p.Epoch, slices.Clone(p.Chains[:cap(p.Chains)])...)
	for i, chain := range q.Chains {
		q.Chains[i] = slices.Clone(chain[:cap(chain)])
	}
	return q
}

// expectRoom holds that p is as it was, its spare room included.
func expectRoom(t *testing.T, p, before api.Projection) {
	t.Helper()
	if got := room(p); !reflect.DeepEqual(got, before) {
		t.Errorf("what was handed in is %v, not %v", got, before)
	}
}

// P13.1: what New was handed is the caller's, whatever New made of it.
func TestHandedToNew(t *testing.T) {
	for _, p := range append(bads(), of(0, []int{0, 1}, []int{2, 3}), of(maxEpoch, []int{15})) {
		for _, size := range []int{0, 1, maxPages, maxPages + 1} {
			p := roomy(p)
			before := room(p)
			n, err := rpc.New(p, size)
			expectRoom(t, p, before)
			if err == api.OK {
				want := roomy(p)
				scribbleOver(p)
				expect(t, n, lookOf(), api.Answer{P: want, Mark: -1, N: -1})
				expect(t, n, nextOf(want.Epoch), number(0, want.Epoch))
			}
		}
	}
}

// P13.2: what Change was handed is the caller's, whether it counts or not; and so is what any other question has beside its fields.
func TestHandedToDo(t *testing.T) {
	b := made(t, roomy(of(0, []int{0, 1}, []int{2, 3})), 2)
	for epoch := 1; epoch < 5; epoch++ {
		for _, p := range []api.Projection{
			of(epoch, []int{1, 0}, []int{2, 3}), {}, of(epoch, []int{0, 1, 16}, []int{2, 3}), of(epoch, []int{0, 1, 5 + epoch}, []int{2, 3}), of(epoch, []int{0, 1}, []int{2, 3}),
		} {
			for _, kind := range slices.Concat(foreign, kinds) {
				q := roomy(p)
				before := room(q)
				b.do(api.Ask{Kind: kind, Unit: epoch, Epoch: epoch, Page: epoch, Size: epoch, N: epoch, Data: "a", P: q})
				expectRoom(t, q, before)
				scribbleOver(q)
			}
			b.same()
		}
	}
	if now := b.n.Layout().Now(); !reflect.DeepEqual(now, of(4, []int{0, 1, 9}, []int{2, 3})) {
		t.Errorf("%v counts", now)
	}
}

// P13.2: what Layout and Change told is the caller's own: nobody else sees it written over.
func TestTold(t *testing.T) {
	first, next := of(3, []int{0, 1}, []int{2}), of(4, []int{1, 5}, []int{2, 4})
	b := made(t, first, 2)
	var kept []api.Projection
	asks := []api.Ask{lookOf(), changeOf(first), changeOf(next), changeOf(next), lookOf(), changeOf(api.Projection{}), lookOf()}
	for _, a := range asks {
		kept = append(kept, b.do(a).P)
		scribbleOver(b.do(a).P)
		b.same()
	}
	for i, p := range kept {
		want := first
		if i > 1 {
			want = next
		}
		if !reflect.DeepEqual(p, want) {
			t.Errorf("what was told as %v is %v", want, p)
		}
		scribbleOver(p)
	}
	b.same()
}

// P13.2: a text that is written is not kept as the caller's, and one that is told is the caller's own.
func TestTexts(t *testing.T) {
	n := begun(t, of(0, []int{0, 1}), 2)
	bytes := []byte("hello")
	for k := range maxUnits {
		expect(t, n, to(k, api.AskWrite, 0, 1, unsafe.String(&bytes[0], len(bytes))), code(api.OK))
	}
	copy(bytes, "later")
	for k := range maxUnits {
		one, again := n.Do(to(k, api.AskRead, 0, 1, "")).Data, n.Do(to(k, api.AskRead, 0, 1, "")).Data
		if one != "hello" || again != "hello" || unsafe.StringData(one) == unsafe.StringData(again) {
			t.Fatalf("unit %d: %q, %q", k, one, again)
		}
		copy(unsafe.Slice(unsafe.StringData(one), len(one)), "never")
		expect(t, n, to(k, api.AskRead, 0, 1, ""), api.Answer{Data: "hello"})
	}
	if string(bytes) != "later" {
		t.Errorf("what was handed in is %q", bytes)
	}
}
