package place_test

import (
	"fmt"
	"math"
	"math/rand"
	"slices"
	"testing"

	"escheat/api"
	"escheat/place"
)

// noAddrs are whole numbers that are no address.
var noAddrs = []int{
	-1, -2, -3, -4, -5, -maxAddr, -maxAddr + 1, maxAddr, maxAddr + 1, maxAddr + 2, maxAddr + 3, 2 * maxAddr, 1 << 31, 1 << 32, -1 << 31, -1 << 32, 1<<32 + 5, 1 << 62, -1 << 62,
	math.MaxInt, math.MaxInt - 1, math.MinInt, math.MinInt + 1, math.MinInt + 2,
}

// expectPlace holds that addr lies at x in p, and that nothing else lies there.
func expectPlace(t *testing.T, p api.Projection, addr int, x api.Place) {
	t.Helper()
	if got, ok := place.Of(p, addr); got != x || !ok {
		t.Errorf("Of(%v, %d) = %v, %v, not %v", p, addr, got, ok, x)
	}
	if got, ok := place.Addr(p, x); got != addr || !ok {
		t.Errorf("Addr(%v, %v) = %d, %v, not %d", p, x, got, ok, addr)
	}
	if got := place.Chain(p, addr); !slices.Equal(got, p.Chains[x.Chain]) {
		t.Errorf("Chain(%v, %d) = %v", p, addr, got)
	}
}

// expectNoAddr holds that addr lies nowhere in p.
func expectNoAddr(t *testing.T, p api.Projection, addr int) {
	t.Helper()
	if x, ok := place.Of(p, addr); ok || x != (api.Place{}) {
		t.Errorf("Of(%.200v, %d) = %v, %v", fmt.Sprint(p), addr, x, ok)
	}
	if l := place.Chain(p, addr); len(l) != 0 {
		t.Errorf("Chain(%.200v, %d) = %v", fmt.Sprint(p), addr, l)
	}
}

// expectNoPlace holds that no address lies at x in p.
func expectNoPlace(t *testing.T, p api.Projection, x api.Place) {
	t.Helper()
	if addr, ok := place.Addr(p, x); ok || addr != 0 {
		t.Errorf("Addr(%.200v, %v) = %d, %v", fmt.Sprint(p), x, addr, ok)
	}
}

// P8.1: the chapter's example
func TestExample(t *testing.T) {
	p := of([]int{0, 1}, []int{2, 3})
	expectPlace(t, p, 5, api.Place{Chain: 1, Page: 2})
	if l := place.Chain(p, 5); !slices.Equal(l, []int{2, 3}) {
		t.Errorf("address 5 stands with %v", l)
	}
}

// P8.1: by hand, the first addresses and the last ones
func TestPlacesByHand(t *testing.T) {
	one, two := of([]int{4, 9}), of([]int{4, 9}, []int{2})
	three, four := of([]int{4, 9}, []int{2}, []int{0, 1, 3}), of([]int{4, 9}, []int{2}, []int{0, 1, 3}, []int{15, 14, 13, 12})
	for _, x := range []struct {
		p                 api.Projection
		addr, chain, page int
		units             []int
	}{
		{one, 0, 0, 0, []int{4, 9}}, {one, 1, 0, 1, []int{4, 9}}, {one, 7, 0, 7, []int{4, 9}}, {one, 4096, 0, 4096, []int{4, 9}}, {one, 16383, 0, 16383, []int{4, 9}},
		{two, 0, 0, 0, []int{4, 9}}, {two, 1, 1, 0, []int{2}}, {two, 2, 0, 1, []int{4, 9}}, {two, 3, 1, 1, []int{2}}, {two, 16382, 0, 8191, []int{4, 9}}, {two, 16383, 1, 8191, []int{2}},
		{three, 0, 0, 0, []int{4, 9}}, {three, 1, 1, 0, []int{2}}, {three, 2, 2, 0, []int{0, 1, 3}}, {three, 3, 0, 1, []int{4, 9}}, {three, 16382, 2, 5460, []int{0, 1, 3}}, {three, 16383, 0, 5461, []int{4, 9}},
		{four, 0, 0, 0, []int{4, 9}}, {four, 3, 3, 0, []int{15, 14, 13, 12}}, {four, 4, 0, 1, []int{4, 9}}, {four, 6, 2, 1, []int{0, 1, 3}}, {four, 16380, 0, 4095, []int{4, 9}}, {four, 16383, 3, 4095, []int{15, 14, 13, 12}},
	} {
		expectPlace(t, x.p, x.addr, api.Place{Chain: x.chain, Page: x.page})
		if l := place.Chain(x.p, x.addr); !slices.Equal(l, x.units) {
			t.Errorf("Chain(%v, %d) = %v", x.p, x.addr, l)
		}
	}
}

// P8.1, P8.3: each address lies at one place, each place has one address, and there are no others.
func TestAllAddresses(t *testing.T) {
	for _, p := range goods() {
		lie, met := laid(len(p.Chains)), map[api.Place]int{}
		for addr := range maxAddr {
			expectPlace(t, p, addr, lie[addr])
			x, _ := place.Of(p, addr)
			met[x]++
		}
		if len(met) != maxAddr {
			t.Errorf("%v has %d places", p, len(met))
		}
		for _, addr := range noAddrs {
			expectNoAddr(t, p, addr)
		}
		for chain := -2; chain <= len(p.Chains)+1; chain++ {
			expectPages(t, p, chain, met)
		}
	}
}

// expectPages holds of all pages of a chain, and some below and above, that Addr tells an address of just those met, and that Of tells the place of it.
func expectPages(t *testing.T, p api.Projection, chain int, met map[api.Place]int) {
	t.Helper()
	for page := -5; page <= maxAddr+5; page++ {
		x := api.Place{Chain: chain, Page: page}
		if met[x] == 0 {
			expectNoPlace(t, p, x)
			continue
		}
		addr, ok := place.Addr(p, x)
		if back, is := place.Of(p, addr); !ok || !is || back != x {
			t.Errorf("%v of %v went and came back as %v: %d, %v, %v", x, p, back, addr, ok, is)
		}
	}
}

// P8.1: the last page of each chain that has an address, and one more
func TestLastPages(t *testing.T) {
	for chains, last := range [][]int{nil, {16383}, {8191, 8191}, {5461, 5460, 5460}, {4095, 4095, 4095, 4095}} {
		for _, p := range goods() {
			if len(p.Chains) != chains {
				continue
			}
			for chain, page := range last {
				expectPlace(t, p, page*chains+chain, api.Place{Chain: chain, Page: page})
				expectNoPlace(t, p, api.Place{Chain: chain, Page: page + 1})
			}
			for page := range 20000 {
				expectNoPlace(t, p, api.Place{Chain: chains, Page: page})
				expectNoPlace(t, p, api.Place{Chain: -1, Page: page})
			}
		}
	}
}

// P8.1: chains and pages far outside, such as would come to an address if a product or a sum went round
func TestFarPlaces(t *testing.T) {
	var far []int
	for by := 1; by <= 8; by++ {
		for near := -40; near <= 40; near++ {
			for _, v := range []uint64{0, 1 << 31, 1 << 32, 1 << 63, math.MaxUint64} {
				far = append(far, int(v/uint64(by)+uint64(near)), -int(v/uint64(by)+uint64(near)))
			}
		}
	}
	// Threefold it goes round to 2; it goes on from there.
	far = append(far, 6148914691236517206, 6148914691236517207, 6148914691236517208, math.MaxInt/3, math.MinInt/3)
	for _, p := range goods() {
		last := maxAddr / len(p.Chains)
		for _, v := range far {
			for chain := range p.Chains {
				if v < 0 || v > last {
					expectNoPlace(t, p, api.Place{Chain: chain, Page: v})
				}
			}
			if v < 0 || v >= len(p.Chains) {
				expectNoPlace(t, p, api.Place{Chain: v})
				expectNoPlace(t, p, api.Place{Chain: v, Page: 1})
				expectNoPlace(t, p, api.Place{Chain: v, Page: -v})
				expectNoPlace(t, p, api.Place{Chain: v, Page: -v / len(p.Chains)})
				expectNoPlace(t, p, api.Place{Chain: v, Page: v})
			}
		}
	}
}

// P8.1, P8.2: in what is no good projection nothing lies anywhere.
func TestNotGood(t *testing.T) {
	tails := map[int]int{}
	for u := -20; u < 300; u++ {
		tails[u] = u + 30
	}
	for _, p := range bads() {
		for addr := range 50 {
			expectNoAddr(t, p, addr)
		}
		for _, addr := range append([]int{maxAddr - 1, maxPages}, noAddrs...) {
			expectNoAddr(t, p, addr)
		}
		for chain := -2; chain < 8; chain++ {
			for _, page := range []int{0, 1, 2, 5, -1, 4095, math.MaxInt, math.MinInt} {
				expectNoPlace(t, p, api.Place{Chain: chain, Page: page})
			}
			for _, addr := range append([]int{0, 1, 2, 3, 10, maxAddr - 1}, noAddrs...) {
				if n := place.Below(p, addr, chain); n != 0 {
					t.Errorf("Below(%.200v, %d, %d) = %d", fmt.Sprint(p), addr, chain, n)
				}
			}
		}
		for _, m := range []map[int]int{nil, {}, {0: 5}, {1: math.MaxInt}, tails} {
			if n := place.Tail(p, m); n != 0 {
				t.Errorf("Tail(%.200v, %v) = %d", fmt.Sprint(p), m, n)
			}
		}
	}
}

// P8.1: projections and numbers that follow no simple rule
func TestAny(t *testing.T) {
	r := rand.New(rand.NewSource(8))
	lie := [][]api.Place{nil, laid(1), laid(2), laid(3), laid(4)}
	for range 30000 {
		var p api.Projection
		p.Epoch = r.Intn(1 << 31)
		units := r.Perm(16)
		for range 1 + r.Intn(4) {
			n := 1 + r.Intn(4)
			p.Chains = append(p.Chains, slices.Clone(units[:n]))
			units = units[n:]
		}
		addr := r.Intn(maxAddr)
		expectPlace(t, p, addr, lie[len(p.Chains)][addr])
		if v := int(r.Uint64() >> r.Intn(50)); v < 0 || v >= maxAddr {
			expectNoAddr(t, p, v)
			expectNoPlace(t, p, api.Place{Chain: r.Intn(len(p.Chains)), Page: v})
			expectNoPlace(t, p, api.Place{Chain: v, Page: r.Intn(100)})
		}
	}
}
