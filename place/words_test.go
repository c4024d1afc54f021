package place_test

import (
	"math"
	"slices"

	"escheat/api"
)

// The words of the chapter, told in another way than the program's: by going through all addresses.

const (
	maxAddr  = 16384
	maxPages = 4096
)

// of is the projection of these chains.
func of(chains ...[]int) api.Projection {
	return api.Projection{Epoch: 3, Chains: chains}
}

// goods are some good projections: one of each number of chains at the least, those at the edges among them.
func goods() []api.Projection {
	return []api.Projection{
		of([]int{0}), of([]int{15}), of([]int{7, 3, 11, 0}),
		of([]int{0}, []int{1}), of([]int{0, 1}, []int{2, 3}), of([]int{9, 4, 1}, []int{15}),
		of([]int{0, 1}, []int{2}, []int{3, 4, 5}), of([]int{14}, []int{3}, []int{0}),
		of([]int{0}, []int{1}, []int{2}, []int{3}), of([]int{8, 4, 12}, []int{1}, []int{2, 11}, []int{0}),
		of([]int{3, 2, 1, 0}, []int{7, 6, 5, 4}, []int{11, 10, 9, 8}, []int{15, 14, 13, 12}),
		{Epoch: 0, Chains: [][]int{{5, 6}, {7}}}, {Epoch: math.MaxInt32, Chains: [][]int{{6}, {5}, {7, 0}}},
	}
}

// bads are some that are not good: each would have places, were it not held against what is good.
func bads() []api.Projection {
	return []api.Projection{
		{}, of(), {Chains: [][]int{}}, of(nil), of([]int{}), of(nil, nil), of([]int{0}, nil), of(nil, []int{0}), of([]int{0}, []int{}, []int{1}), of([]int{0}, []int{1}, []int{2}, nil),
		{Epoch: -1, Chains: [][]int{{0}}}, {Epoch: math.MaxInt32 + 1, Chains: [][]int{{0}, {1}}}, {Epoch: math.MinInt, Chains: [][]int{{0}}}, {Epoch: math.MaxInt, Chains: [][]int{{0}}},
		of([]int{-1}), of([]int{16}), of([]int{0}, []int{256}), of([]int{0}, []int{math.MaxInt}), of([]int{math.MinInt}, []int{0}), of([]int{0, 1, 16}, []int{2}),
		of([]int{0, 0}), of([]int{0}, []int{0}), of([]int{0, 1}, []int{2, 1}), of([]int{1}, []int{2}, []int{3}, []int{1}),
		of([]int{0, 1, 2, 3, 4}), of([]int{0}, []int{1, 2, 3, 4, 5}), of([]int{0}, []int{1}, []int{2}, []int{3}, []int{4}), of(slices.Repeat([][]int{{1}}, 70000)...),
	}
}

// laid are the places of all addresses, the least one first, where there are so many chains.
func laid(chains int) []api.Place {
	l := make([]api.Place, 0, maxAddr)
	for page := 0; len(l) < maxAddr; page++ {
		for chain := 0; chain < chains && len(l) < maxAddr; chain++ {
			l = append(l, api.Place{Chain: chain, Page: page})
		}
	}
	return l
}

// tailOf is one more than the last of the addresses laid that lies on a page which a unit of p has, by tails.
func tailOf(p api.Projection, tails map[int]int, laid []api.Place) int {
	for addr, x := range slices.Backward(laid) {
		for _, u := range p.Chains[x.Chain] {
			if n, named := tails[u]; named && x.Page < n && x.Page < maxPages {
				return addr + 1
			}
		}
	}
	return 0
}

// counted is how many of the places stand in the chain.
func counted(places []api.Place, chain int) int {
	n := 0
	for _, x := range places {
		if x.Chain == chain {
			n++
		}
	}
	return n
}
