package place_test

import (
	"fmt"
	"maps"
	"math"
	"slices"
	"testing"

	"escheat/api"
	"escheat/place"
)

// scribble writes v over all numbers of l, and its spare room.
func scribble(l []int, v int) {
	l = l[:cap(l)]
	for i := range l {
		l[i] = v
	}
}

// roomy is p in lists that have spare room, in which there is something.
func roomy(p api.Projection) api.Projection {
	q := api.Projection{Epoch: p.Epoch, Chains: make([][]int, 0, len(p.Chains)+3)}
	for _, chain := range append(slices.Clone(p.Chains), []int{1, 2}, []int{3}, nil) {
		q.Chains = append(q.Chains, append(append(make([]int, 0, len(chain)+3), chain...), 4, 5, 6)[:len(chain)])
	}
	q.Chains = q.Chains[:len(p.Chains)]
	return q
}

// whole is a copy of p with the spare room of its lists.
func whole(p api.Projection) api.Projection {
	q := api.Projection{Epoch: p.Epoch}
	for _, chain := range p.Chains[:cap(p.Chains)] {
		q.Chains = append(q.Chains, slices.Clone(chain[:cap(chain)]))
	}
	return q
}

func alike(p, q api.Projection) bool {
	return p.Epoch == q.Epoch && slices.EqualFunc(p.Chains, q.Chains, slices.Equal[[]int])
}

// P8.1: what Chain tells is the caller's own.
func TestChainIsNew(t *testing.T) {
	for _, was := range goods() {
		for addr := range 9 {
			p, want := roomy(was), slices.Clone(was.Chains[addr%len(was.Chains)])
			before := whole(p)
			one, other := place.Chain(p, addr), place.Chain(p, addr)
			scribble(one, -77)
			if !alike(whole(p), before) || !slices.Equal(other, want) || !slices.Equal(place.Chain(p, addr), want) {
				t.Errorf("a change of the chain of %d in %v is seen elsewhere", addr, was)
			}
			for _, chain := range p.Chains[:cap(p.Chains)] {
				scribble(chain, -78)
			}
			if !slices.Equal(other, want) {
				t.Errorf("a change of %v is seen in the chain of %d", was, addr)
			}
		}
	}
}

// tailsOf are some maps, such as name units that stand nowhere among them.
func tailsOf() []map[int]int {
	return []map[int]int{
		nil, {}, {0: 1}, {0: 5, 1: -5, 2: 0, 3: 4097}, {5: math.MaxInt, 7: math.MinInt, 15: 4096, 16: 9, -1: 9}, {math.MaxInt: 1, math.MinInt: 2, 1 << 32: 3},
	}
}

// P8.1, P8.2: what was handed in, the map too, is as it was, its spare room included.
func TestHandedInStays(t *testing.T) {
	for _, was := range append(goods(), bads()...) {
		p := roomy(was)
		before := whole(p)
		for _, tails := range tailsOf() {
			named := maps.Clone(tails)
			place.Tail(p, tails)
			if !maps.Equal(tails, named) || (tails == nil) != (named == nil) {
				t.Errorf("Tail(%.200v, %v) made the map %v", fmt.Sprint(was), named, tails)
			}
		}
		for _, v := range append([]int{0, 1, 2, 3, 5, maxAddr - 1}, noAddrs...) {
			place.Of(p, v)
			place.Addr(p, api.Place{Chain: v, Page: 1})
			place.Addr(p, api.Place{Chain: 0, Page: v})
			place.Chain(p, v)
			place.Below(p, v, 0)
			place.Below(p, 5, v)
		}
		if !alike(whole(p), before) || len(p.Chains) != len(was.Chains) {
			t.Errorf("%.200v is not as it was", fmt.Sprint(was))
		}
	}
}

// P8.1, P8.2: what stands in spare room does not count.
func TestSpareRoomDoesNotCount(t *testing.T) {
	for _, was := range goods() {
		p, lie := roomy(was), laid(len(was.Chains))
		for addr := range 20 {
			expectPlace(t, p, addr, lie[addr])
			for chain := -1; chain <= len(was.Chains)+1; chain++ {
				if got := place.Below(p, addr, chain); got != counted(lie[:addr], chain) {
					t.Errorf("Below(%v, %d, %d) = %d with spare room", was, addr, chain, got)
				}
			}
		}
		for _, tails := range tailsOf() {
			expectTail(t, p, tails, tailOf(was, tails, lie))
		}
		expectNoPlace(t, p, api.Place{Chain: len(was.Chains)})
	}
	for _, was := range bads() {
		expectNoAddr(t, roomy(was), 0)
		expectNoPlace(t, roomy(was), api.Place{})
	}
}

// P8.1, P8.2: what was called ahead changes no answer, and neither does what the lists were at an elder call.
func TestCallsApart(t *testing.T) {
	p, lie := of([]int{0, 1}, []int{2}, []int{3, 4, 5}), laid(3)
	others := append(goods(), bads()...)
	for i, q := range others {
		for _, tails := range tailsOf() {
			place.Tail(q, tails)
		}
		place.Of(q, i)
		place.Addr(q, api.Place{Page: i})
		place.Below(q, i, 0)
		scribble(place.Chain(q, i), 9)
		expectPlace(t, p, i, lie[i])
		expectTail(t, p, map[int]int{0: 2, 2: 2, 9: 7}, 5)
		if got := place.Below(p, i, 1); got != counted(lie[:i], 1) {
			t.Errorf("behind calls with %.200v Below(%v, %d, 1) = %d", fmt.Sprint(q), p, i, got)
		}
	}
	tails := map[int]int{0: 2}
	expectTail(t, p, tails, 4)
	tails[2] = 2
	expectTail(t, p, tails, 5)
	delete(tails, 0)
	clear(tails)
	expectTail(t, p, tails, 0)
	p.Chains[0][0] = 3
	expectNoAddr(t, p, 0)
	p.Chains = p.Chains[:1]
	expectPlace(t, p, 4, api.Place{Chain: 0, Page: 4})
}
