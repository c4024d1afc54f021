package proj_test

import (
	"encoding/binary"
	"slices"

	"escheat/api"
)

// The words of the chapter, told in another way than the program's.

const (
	maxInt   = int(^uint(0) >> 1)
	minInt   = -maxInt - 1
	maxEpoch = 2147483647
)

// of is the projection of these chains in the epoch.
func of(epoch int, chains ...[]int) api.Projection {
	return api.Projection{Epoch: epoch, Chains: chains}
}

// isGood tells if p is a projection.
func isGood(p api.Projection) bool {
	if p.Epoch < 0 || p.Epoch > maxEpoch || len(p.Chains) == 0 || len(p.Chains) > 4 {
		return false
	}
	var times [16]int
	for _, chain := range p.Chains {
		if len(chain) == 0 || len(chain) > 4 {
			return false
		}
		for _, u := range chain {
			if u < 0 || u > 15 {
				return false
			}
			times[u]++
		}
	}
	return slices.Max(times[:]) == 1
}

// mayCome tells if q may come next behind p.
func mayCome(p, q api.Projection) bool {
	if !isGood(p) || !isGood(q) || p.Epoch != q.Epoch-1 || len(p.Chains) != len(q.Chains) {
		return false
	}
	stood := slices.Concat(p.Chains...)
	for i, chain := range q.Chains {
		fits := false
		for n := 1; n <= len(chain); n++ {
			isNew := func(u int) bool { return !slices.Contains(stood, u) }
			fits = fits || inOrder(chain[:n], p.Chains[i]) && all(chain[n:], isNew)
		}
		if !fits {
			return false
		}
	}
	return true
}

// inOrder tells if the numbers of part stand in whole in the order in which they stand in part.
func inOrder(part, whole []int) bool {
	for _, u := range part {
		at := slices.Index(whole, u)
		if at < 0 {
			return false
		}
		whole = whole[at+1:]
	}
	return true
}

func all(l []int, is func(u int) bool) bool {
	return !slices.ContainsFunc(l, func(u int) bool { return !is(u) })
}

// words is the text of p as the chapter lays it, whether p is good or not.
func words(p api.Projection) string {
	b := binary.BigEndian.AppendUint32(nil, uint32(p.Epoch))
	b = append(b, byte(len(p.Chains)))
	for _, chain := range p.Chains {
		b = append(b, byte(len(chain)))
		for _, u := range chain {
			b = append(b, byte(u))
		}
	}
	return string(b)
}

// projectionOf is the good projection whose text s is; false, if there is none.
func projectionOf(s string) (api.Projection, bool) {
	if len(s) < 5 {
		return api.Projection{}, false
	}
	p := api.Projection{Epoch: int(binary.BigEndian.Uint32([]byte(s)))}
	n, left := int(s[4]), s[5:]
	for range n {
		if left == "" || int(left[0]) >= len(left) {
			return api.Projection{}, false
		}
		chain, size := []int{}, int(left[0])
		for _, u := range []byte(left[1 : 1+size]) {
			chain = append(chain, int(u))
		}
		p.Chains, left = append(p.Chains, chain), left[1+size:]
	}
	if left != "" || !isGood(p) {
		return api.Projection{}, false
	}
	return p, true
}

// unitsOf are the units of p, rising, each once.
func unitsOf(p api.Projection) []int {
	l := slices.Concat(p.Chains...)
	slices.Sort(l)
	return slices.Compact(l)
}

// alike tells if p and q have the same epoch and the same chains; nil and empty lists are one.
func alike(p, q api.Projection) bool {
	return p.Epoch == q.Epoch && slices.EqualFunc(p.Chains, q.Chains, slices.Equal[[]int])
}

// counted are the n numbers from least on.
func counted(least, n int) []int {
	var l []int
	for i := range n {
		l = append(l, least+i)
	}
	return l
}

// shaped has chains of these lengths, with no unit twice: 0 and those behind it.
func shaped(lengths ...int) api.Projection {
	p, least := of(3), 0
	for _, n := range lengths {
		p.Chains = append(p.Chains, counted(least, n))
		least += n
	}
	return p
}

// total is how much all of l come to.
func total(l []int) int {
	n := 0
	for _, v := range l {
		n += v
	}
	return n
}

// lists are all lists of up to most of these numbers, each as often as one likes.
func lists(of []int, most int) [][]int {
	l := [][]int{nil}
	for from, n := 0, 0; n < most; n++ {
		to := len(l)
		for _, head := range l[from:to] {
			for _, u := range of {
				l = append(l, append(slices.Clone(head), u))
			}
		}
		from = to
	}
	return l
}

// goods are some good projections, those at the edges among them.
func goods() []api.Projection {
	return []api.Projection{
		of(0, []int{0}), of(1, []int{15}), of(maxEpoch, []int{7}), of(258, []int{5, 6}, []int{7}),
		of(4, []int{0, 1}, []int{2, 3}), of(5, []int{1}, []int{2, 3, 4}), of(0x01020304, []int{3, 2, 1, 0}),
		of(0x7f80ff00, []int{15}, []int{0}, []int{14}, []int{1}), of(9, []int{8, 4, 12}, []int{1}, []int{2, 11}),
		of(maxEpoch-1, []int{3, 2, 1, 0}, []int{7, 6, 5, 4}, []int{11, 10, 9, 8}, []int{15, 14, 13, 12}),
		shaped(1), shaped(4), shaped(1, 1), shaped(4, 4), shaped(1, 2, 3), shaped(4, 3, 2, 1), shaped(1, 1, 1, 1), shaped(4, 4, 4, 4),
	}
}

// bads are some that are not good, those just outside the edges among them.
func bads() []api.Projection {
	return []api.Projection{
		{}, of(0), {Chains: [][]int{}}, of(0, nil), of(0, []int{}), of(-1, []int{0}), of(maxEpoch+1, []int{0}), of(minInt, []int{0}), of(maxInt, []int{0}),
		of(0, []int{-1}), of(0, []int{16}), of(0, []int{256}), of(0, []int{maxInt}, []int{minInt}), of(0, []int{0, 1, 16}, []int{2}),
		of(0, []int{1, 1}), of(0, []int{1}, []int{2, 1}), of(0, []int{9, 3, 9}, nil, []int{-1, 3}), of(0, []int{0}, nil), of(0, nil, []int{0}), of(0, []int{0}, []int{}, []int{1}),
		shaped(5), shaped(1, 5), shaped(5, 1), shaped(1, 1, 1, 1, 1), shaped(3, 3, 3, 3, 3), shaped(0), shaped(0, 0, 0, 0), shaped(4, 4, 4, 0), shaped(16), shaped(17), shaped(257), shaped(4, 4, 4, 4, 0),
		of(-5, []int{9, 3, 9}, nil, []int{-1, 3}), of(1<<40, slices.Repeat([]int{5}, 1000)), of(3, slices.Repeat([][]int{{1}}, 257)...), of(3, slices.Repeat([][]int{nil}, 70000)...),
	}
}
