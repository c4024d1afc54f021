package place_test

import (
	"math"
	"math/rand"
	"testing"

	"escheat/api"
	"escheat/place"
)

// expectTail holds that Tail(p, tails) is want, and that this is what the words of the chapter say.
func expectTail(t *testing.T, p api.Projection, tails map[int]int, want int) {
	t.Helper()
	if got := place.Tail(p, tails); got != want {
		t.Errorf("Tail(%v, %v) = %d, not %d", p, tails, got, want)
	}
	if got := tailOf(p, tails, laid(len(p.Chains))); got != want {
		t.Errorf("by the words Tail(%v, %v) is %d, not %d", p, tails, got, want)
	}
}

// P8.2
func TestTail(t *testing.T) {
	p := of([]int{0, 1}, []int{2}, []int{3, 4, 5})
	for _, x := range []struct {
		tails map[int]int
		want  int
	}{
		{nil, 0}, {map[int]int{}, 0},
		{map[int]int{0: 0}, 0}, {map[int]int{5: 0}, 0}, {map[int]int{0: 0, 1: 0, 2: 0, 3: 0, 4: 0, 5: 0}, 0}, // no pages
		{map[int]int{0: -1}, 0}, {map[int]int{2: -5}, 0}, {map[int]int{5: math.MinInt}, 0}, {map[int]int{0: math.MinInt, 2: -4096, 5: math.MinInt + 1}, 0},
		{map[int]int{6: 9}, 0}, {map[int]int{-1: 9, 15: 9, 16: 9, 3 + 256: 9, math.MaxInt: 9, math.MinInt: 9}, 0}, // units that do not stand in it
		{map[int]int{0: 1}, 1}, {map[int]int{1: 1}, 1}, {map[int]int{2: 1}, 2}, {map[int]int{3: 1}, 3}, {map[int]int{4: 1}, 3}, {map[int]int{5: 1}, 3},
		{map[int]int{0: 2}, 4}, {map[int]int{2: 2}, 5}, {map[int]int{4: 2}, 6}, {map[int]int{1: 100}, 298}, {map[int]int{2: 100}, 299}, {map[int]int{3: 100}, 300},
		{map[int]int{0: 4095}, 3*4094 + 1}, {map[int]int{0: 4096}, 3*4095 + 1}, {map[int]int{2: 4096}, 3*4095 + 2}, {map[int]int{5: 4096}, 3*4095 + 3}, // all pages
		{map[int]int{1: 4097}, 3*4095 + 1}, {map[int]int{2: 5461}, 3*4095 + 2}, {map[int]int{4: 16384}, 3*4095 + 3}, {map[int]int{4: 1 << 40}, 3*4095 + 3}, // and more
		{map[int]int{0: math.MaxInt}, 3*4095 + 1}, {map[int]int{2: math.MaxInt}, 3*4095 + 2}, {map[int]int{3: math.MaxInt}, 3*4095 + 3}, {map[int]int{3: math.MaxInt - 1}, 3*4095 + 3},
		{map[int]int{0: 3, 1: 2}, 7}, {map[int]int{0: 2, 1: 3}, 7}, {map[int]int{3: 1, 4: 5, 5: 2}, 15}, {map[int]int{3: 5, 4: 1, 5: 2}, 15}, {map[int]int{3: 1, 4: 2, 5: 5}, 15}, // several of one chain
		{map[int]int{0: 2, 1: 2}, 4}, {map[int]int{3: 2, 4: 2, 5: 2}, 6}, {map[int]int{0: 2, 1: 0}, 4}, {map[int]int{0: -7, 1: 2}, 4}, {map[int]int{0: math.MinInt, 1: math.MaxInt}, 3*4095 + 1},
		{map[int]int{0: 3, 2: 2, 4: 2}, 7}, {map[int]int{0: 2, 2: 3, 4: 2}, 8}, {map[int]int{0: 2, 2: 2, 4: 3}, 9}, {map[int]int{0: 2, 2: 2, 4: 2}, 6}, // of several chains
		{map[int]int{0: 3, 2: 3, 4: 2}, 8}, {map[int]int{1: 3, 2: 1}, 7}, {map[int]int{1: 9, 2: 8, 3: 8}, 25}, {map[int]int{1: 1, 2: 1, 3: 0}, 2}, {map[int]int{0: 1, 2: 0, 5: -1}, 1},
		{map[int]int{0: math.MaxInt, 2: 4096, 4: 4095}, 3*4095 + 2}, {map[int]int{0: math.MaxInt, 2: 4095, 4: 4095}, 3*4095 + 1}, {map[int]int{0: 5000, 2: 4999, 4: 4998}, 3*4095 + 3},
		{map[int]int{0: 1, 9: 50}, 1}, {map[int]int{4: 2, 6: 4096, -3: 50, 19: 50}, 6}, // beside units that do not stand in it
	} {
		expectTail(t, p, x.tails, x.want)
	}
}

// P8.2: each number of chains
func TestTailOfChains(t *testing.T) {
	one, two, four := of([]int{7, 3}), of([]int{7}, []int{3}), of([]int{7}, []int{3}, []int{0, 1}, []int{15, 14})
	for _, x := range []struct {
		p     api.Projection
		tails map[int]int
		want  int
	}{
		{one, nil, 0}, {one, map[int]int{7: 1}, 1}, {one, map[int]int{3: 1}, 1}, {one, map[int]int{7: 5, 3: 9}, 9}, {one, map[int]int{7: 4096}, 4096}, {one, map[int]int{3: 4097}, 4096}, {one, map[int]int{3: maxAddr}, 4096}, {one, map[int]int{0: 5}, 0},
		{two, nil, 0}, {two, map[int]int{7: 1}, 1}, {two, map[int]int{3: 1}, 2}, {two, map[int]int{7: 5, 3: 4}, 9}, {two, map[int]int{7: 5, 3: 5}, 10}, {two, map[int]int{7: 4096}, 8191}, {two, map[int]int{3: 8192}, 8192},
		{four, nil, 0}, {four, map[int]int{7: 1}, 1}, {four, map[int]int{14: 1}, 4}, {four, map[int]int{7: 2, 3: 1, 1: 1, 14: 1}, 5}, {four, map[int]int{3: 2, 14: 1}, 6}, {four, map[int]int{7: 4096}, maxAddr - 3},
		{four, map[int]int{15: 4095, 1: 4096}, maxAddr - 1}, {four, map[int]int{15: 4096}, maxAddr}, {four, map[int]int{14: math.MaxInt, 15: 4096, 0: math.MaxInt}, maxAddr},
	} {
		expectTail(t, x.p, x.tails, x.want)
	}
}

// P8.2: each count of one unit; it is the tail of an address just where that is the last one on a page which the unit has.
func TestTailOfEachCount(t *testing.T) {
	for _, p := range goods() {
		for chain, units := range p.Chains {
			for n := -3; n <= maxPages+3; n++ {
				want := 0
				if n > 0 {
					want = (min(n, maxPages)-1)*len(p.Chains) + chain + 1
				}
				if got := place.Tail(p, map[int]int{units[len(units)-1]: n}); got != want {
					t.Fatalf("Tail(%v, %d has %d) = %d, not %d", p, units[len(units)-1], n, got, want)
				}
			}
		}
	}
}

// P8.2: maps that follow no simple rule; the same map is told the same, however often it is gone through.
func TestTailOfAny(t *testing.T) {
	r := rand.New(rand.NewSource(82))
	for _, p := range goods() {
		lie := laid(len(p.Chains))
		for range 300 {
			tails := map[int]int{}
			for range r.Intn(20) {
				u := []int{r.Intn(16), r.Intn(16), r.Intn(40) - 12, int(r.Uint64())}[r.Intn(4)]
				tails[u] = []int{r.Intn(4), r.Intn(12) - 4, r.Intn(maxPages + 1), maxPages + r.Intn(3), int(r.Uint64())}[r.Intn(5)]
			}
			want := tailOf(p, tails, lie)
			for range 4 {
				if got := place.Tail(p, tails); got != want {
					t.Errorf("Tail(%v, %v) = %d, not %d", p, tails, got, want)
				}
			}
		}
	}
}

// P8.2
func TestBelow(t *testing.T) {
	one, two, three, four := of([]int{4, 9}), of([]int{4, 9}, []int{2}), of([]int{4, 9}, []int{2}, []int{0, 1, 3}), of([]int{4}, []int{2}, []int{0}, []int{15})
	for _, x := range []struct {
		p    api.Projection
		addr int
		want []int
	}{
		{one, -1, []int{0}}, {one, 0, []int{0}}, {one, 1, []int{1}}, {one, 2, []int{2}}, {one, maxAddr - 1, []int{16383}}, {one, maxAddr, []int{16384}}, {one, maxAddr + 1, []int{16384}}, {one, math.MaxInt, []int{16384}},
		{two, -1, []int{0, 0}}, {two, 0, []int{0, 0}}, {two, 1, []int{1, 0}}, {two, 2, []int{1, 1}}, {two, 3, []int{2, 1}}, {two, 4, []int{2, 2}}, {two, maxAddr - 1, []int{8192, 8191}}, {two, maxAddr, []int{8192, 8192}}, {two, math.MaxInt, []int{8192, 8192}},
		{three, math.MinInt, []int{0, 0, 0}}, {three, -9, []int{0, 0, 0}}, {three, -1, []int{0, 0, 0}}, {three, 0, []int{0, 0, 0}}, {three, 1, []int{1, 0, 0}}, {three, 2, []int{1, 1, 0}}, {three, 3, []int{1, 1, 1}}, {three, 4, []int{2, 1, 1}}, {three, 5, []int{2, 2, 1}}, {three, 6, []int{2, 2, 2}}, {three, 7, []int{3, 2, 2}},
		{three, maxAddr - 1, []int{5461, 5461, 5461}}, {three, maxAddr, []int{5462, 5461, 5461}}, {three, maxAddr + 1, []int{5462, 5461, 5461}}, {three, 1 << 40, []int{5462, 5461, 5461}}, {three, math.MaxInt - 1, []int{5462, 5461, 5461}}, {three, math.MaxInt, []int{5462, 5461, 5461}},
		{four, -1, []int{0, 0, 0, 0}}, {four, 0, []int{0, 0, 0, 0}}, {four, 1, []int{1, 0, 0, 0}}, {four, 3, []int{1, 1, 1, 0}}, {four, 4, []int{1, 1, 1, 1}}, {four, 5, []int{2, 1, 1, 1}}, {four, maxAddr - 1, []int{4096, 4096, 4096, 4095}}, {four, maxAddr, []int{4096, 4096, 4096, 4096}},
	} {
		for chain, want := range x.want {
			if got := place.Below(x.p, x.addr, chain); got != want {
				t.Errorf("Below(%v, %d, %d) = %d, not %d", x.p, x.addr, chain, got, want)
			}
		}
		for _, chain := range []int{-1, -2, -3, -4, len(x.want), len(x.want) + 1, 4, 5, -1 << 62, 1 << 32, math.MaxInt, math.MinInt} {
			if got := place.Below(x.p, x.addr, chain); got != 0 {
				t.Errorf("Below(%v, %d, %d) = %d", x.p, x.addr, chain, got)
			}
		}
	}
}

// P8.2: at each address, as many pages as addresses of the chain that were counted one by one; of all chains together, as many as there are addresses.
func TestBelowEachAddress(t *testing.T) {
	for _, p := range goods() {
		lie, counts := laid(len(p.Chains)), make([]int, len(p.Chains))
		for addr := range maxAddr + 1 {
			expectBelow(t, p, addr, addr, counts)
			if addr < maxAddr {
				counts[lie[addr].Chain]++
			}
		}
		for chain := range counts {
			counts[chain] = counted(lie, chain)
		}
		for _, addr := range noAddrs {
			if addr < 0 {
				expectBelow(t, p, addr, 0, make([]int, len(p.Chains)))
			} else {
				expectBelow(t, p, addr, maxAddr, counts)
			}
		}
	}
}

// expectBelow holds that the chains have these counts of pages below addr, and that they are together as many as all.
func expectBelow(t *testing.T, p api.Projection, addr, all int, counts []int) {
	t.Helper()
	sum := 0
	for chain, want := range counts {
		got := place.Below(p, addr, chain)
		if got != want {
			t.Errorf("Below(%v, %d, %d) = %d, not %d", p, addr, chain, got, want)
		}
		sum += got
	}
	if sum != all {
		t.Errorf("below %d all chains of %v have %d pages", addr, p, sum)
	}
}

// P8.2, P8.3: what lies below the tail of a unit's pages, of its own chain, is just as many pages.
func TestBelowTail(t *testing.T) {
	for _, p := range goods() {
		for chain, units := range p.Chains {
			for n := range maxPages + 1 {
				tail := place.Tail(p, map[int]int{units[0]: n})
				if got := place.Below(p, tail, chain); got != n {
					t.Errorf("unit %d of %v has %d pages, below its tail %d", units[0], p, n, got)
				}
			}
		}
	}
}
