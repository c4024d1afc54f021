package proj_test

import (
	"fmt"
	"math/rand"
	"slices"
	"testing"

	"escheat/api"
	"escheat/proj"
)

// expectNext holds that Next(p, q) is want, and that this is what the words of the chapter say.
func expectNext(t *testing.T, p, q api.Projection, want bool) {
	t.Helper()
	if proj.Next(p, q) != want || mayCome(p, q) != want {
		t.Errorf("Next(%.200v, %.200v) is %v", fmt.Sprint(p), fmt.Sprint(q), !want)
	}
}

// ahead is what those come behind that the tests of Next make: units 8, 9 and 12 to 15 stand nowhere in it.
func ahead() api.Projection {
	return of(4, []int{0, 1, 2, 3}, []int{5, 4}, []int{6, 10}, []int{11, 7})
}

// P7.1: each way in which one may come next
func TestNext(t *testing.T) {
	for _, first := range [][]int{
		{0, 1, 2, 3}, {0}, {1}, {2}, {3}, {0, 1}, {0, 2}, {0, 3}, {1, 2}, {1, 3}, {2, 3}, {1, 2, 3}, {0, 2, 3}, {0, 1, 3}, {0, 1, 2},
		{0, 8}, {3, 8}, {0, 1, 8}, {1, 3, 8}, {0, 8, 9}, {2, 9, 8}, {1, 8, 9, 12}, {0, 15, 8, 12}, {0, 1, 2, 8}, {1, 2, 3, 8}, {0, 3, 15, 14},
	} {
		for _, second := range [][]int{{5, 4}, {5}, {4}, {5, 4, 13}, {4, 13}, {5, 13}} {
			expectNext(t, ahead(), of(5, first, second, []int{6}, []int{11, 7}), true)
			expectNext(t, ahead(), of(5, first, second, []int{10}, []int{7}), true)
		}
	}
	expectNext(t, ahead(), of(5, []int{3, 8, 9}, []int{4, 12, 13}, []int{10, 14}, []int{7, 15}), true)
	expectNext(t, of(0, []int{0}), of(1, []int{0}), true)
	expectNext(t, of(9, []int{0}, []int{15}), of(10, []int{0, 14}, []int{15, 1}), true)
}

// P7.1: just one of the conditions fails, of the first chain or of the last one; the others keep what does not stand there.
func TestNextChainsFail(t *testing.T) {
	for _, bad := range [][]int{
		{5}, {4}, {6}, {7}, {4, 8}, {6, 0}, {7, 8, 9}, {5, 0, 1, 2}, {11, 1}, {10, 3}, // the beginning stood elsewhere
		{8}, {15}, {8, 0}, {8, 9}, {8, 0, 1, 2}, {15, 8, 9, 12}, // or nowhere
		{1, 0}, {3, 2, 1, 0}, {0, 2, 1}, {0, 1, 3, 2}, {1, 0, 2, 3}, {3, 0}, {2, 0, 8}, {0, 3, 1}, {2, 1}, {3, 1, 8, 9}, // another order
		{0, 8, 1}, {0, 1, 8, 2}, {1, 8, 2}, {0, 8, 9, 3}, {0, 8, 1, 9}, {1, 8, 0}, {3, 8, 0, 9}, // one that stood there behind a new one
		{0, 6}, {0, 7}, {0, 1, 6}, {3, 7}, {0, 8, 6}, {0, 6, 8}, {0, 4}, {0, 5}, {0, 8, 9, 4}, {0, 10}, {2, 3, 11}, // one that stood in another chain
	} {
		q := of(5, bad)
		for _, chain := range ahead().Chains[1:] {
			q.Chains = append(q.Chains, slices.DeleteFunc(chain, func(u int) bool { return slices.Contains(bad, u) }))
		}
		p := ahead()
		for range 2 {
			if !isGood(q) {
				t.Errorf("%v is not good", q)
			}
			expectNext(t, p, q, false)
			slices.Reverse(p.Chains)
			slices.Reverse(q.Chains)
		}
	}
}

// P7.1: the chains stand in other places.
func TestNextChainsElsewhere(t *testing.T) {
	for _, q := range []api.Projection{
		of(5, []int{0, 1, 2, 3}, []int{6, 10}, []int{5, 4}, []int{11, 7}),
		of(5, []int{5, 4}, []int{0, 1, 2, 3}, []int{6, 10}, []int{11, 7}),
		of(5, []int{11, 7}, []int{0, 1, 2, 3}, []int{5, 4}, []int{6, 10}),
		of(5, []int{7}, []int{6}, []int{5}, []int{0}),
		of(5, []int{0}, []int{5}, []int{11}, []int{6}),
		of(5, []int{0}, []int{5}, []int{8}, []int{7}),
		of(5, []int{0}, []int{5}, []int{6}, []int{9}),
	} {
		if !isGood(q) {
			t.Errorf("%v is not good", q)
		}
		expectNext(t, ahead(), q, false)
	}
}

// P7.1: a unit comes in that stood in another chain ahead, and stands nowhere else any more.
func TestNextMoves(t *testing.T) {
	p := of(4, []int{0, 1}, []int{2, 3})
	for _, q := range []api.Projection{
		of(5, []int{0, 2}, []int{3}), of(5, []int{0, 3}, []int{2}), of(5, []int{0, 1, 3}, []int{2}), of(5, []int{0}, []int{2, 1}), of(5, []int{1}, []int{3, 0}),
		of(5, []int{0, 8, 3}, []int{2}), of(5, []int{3}, []int{2}), of(5, []int{2}, []int{0}), of(5, []int{0}, []int{1}), of(5, []int{0, 3, 8}, []int{2}), of(5, []int{3, 0}, []int{2}),
	} {
		if !isGood(q) {
			t.Errorf("%v is not good", q)
		}
		expectNext(t, p, q, false)
	}
}

// P7.1: just the Epoch is not greater by 1.
func TestNextEpochs(t *testing.T) {
	edges := []int{0, 1, 2, 3, 4, 5, 6, 7, 255, 256, 257, 65535, 65536, 1<<31 - 3, 1<<31 - 2, 1<<31 - 1, 1 << 31, 1<<31 + 1, 1 << 32, 1<<32 + 1, 1<<32 + 2, -1, -2, -1 << 31, -1 << 32, maxInt, maxInt - 1, minInt, minInt + 1}
	for _, a := range edges {
		for _, b := range edges {
			want := a >= 0 && a < maxEpoch && b == a+1
			expectNext(t, of(a, []int{0}, []int{1}), of(b, []int{0}, []int{1}), want)
			expectNext(t, of(a, []int{0}, []int{1}), of(b, []int{0, 2}, []int{1}), want)
		}
	}
}

// P7.1: just one has more chains, or fewer.
func TestNextChainCounts(t *testing.T) {
	chains := [][]int{{0}, {1}, {2}, {3}, {4}, {5}}
	for n := range len(chains) + 1 {
		for m := range len(chains) + 1 {
			expectNext(t, of(0, chains[:n]...), of(1, chains[:m]...), n == m && n >= 1 && n <= 4)
		}
	}
	expectNext(t, of(0, []int{0}, []int{1}), of(1, []int{0}, []int{1}, []int{8}), false)
	expectNext(t, of(0, []int{0}, []int{1}), of(1, []int{1}), false)
}

// P7.1: just one of the two is not good.
func TestNextNotGood(t *testing.T) {
	for _, x := range []struct{ p, q api.Projection }{
		{of(-1, []int{0}), of(0, []int{0})},
		{of(maxEpoch, []int{0}), of(maxEpoch+1, []int{0})},
		{of(0), of(1)},
		{of(0, nil), of(1, nil)},
		{of(0, nil), of(1, []int{0})},
		{of(0, []int{0}), of(1, nil)},
		{of(0, []int{0}, []int{1}), of(1, []int{0}, []int{})},
		{of(0, []int{0}, []int{}), of(1, []int{0}, []int{1})},
		{of(0, []int{0, 0}), of(1, []int{0})},
		{of(0, []int{0, 1, 0}), of(1, []int{0, 1})},
		{of(0, []int{0, 1}, []int{2, 1}), of(1, []int{0}, []int{2})},
		{of(0, []int{0, 1}, []int{1}), of(1, []int{0}, []int{1})},
		{of(0, []int{0}), of(1, []int{0, 0})},
		{of(0, []int{0}), of(1, []int{0, 8, 8})},
		{of(0, []int{0}, []int{1}), of(1, []int{0, 8}, []int{1, 8})},
		{of(0, []int{0, 1}, []int{2}), of(1, []int{0, 1, 1}, []int{2})},
		{of(0, []int{0, 16}), of(1, []int{0})},
		{of(0, []int{0, -1}), of(1, []int{0})},
		{of(0, []int{16}), of(1, []int{16})},
		{of(0, []int{-1}), of(1, []int{-1})},
		{of(0, []int{0}), of(1, []int{0, 16})},
		{of(0, []int{0}), of(1, []int{0, -1})},
		{of(0, []int{0}), of(1, []int{0, 256})},
		{of(0, []int{0, 1, 2, 3, 4}), of(1, []int{0, 1})},
		{of(0, []int{0, 1, 2, 3}), of(1, []int{0, 1, 2, 3, 4})},
		{of(0, []int{0}, []int{1}), of(1, []int{0, 2, 3, 4, 5}, []int{1})},
		{of(0, []int{0}, []int{1}, []int{2}, []int{3}, []int{4}), of(1, []int{0}, []int{1}, []int{2}, []int{3}, []int{4})},
		{of(0, []int{0}, []int{1}, []int{2}, []int{3}), of(1, []int{0}, []int{1}, []int{2}, []int{3}, []int{4})},
	} {
		if isGood(x.p) && isGood(x.q) {
			t.Errorf("%v, %v: both are good", x.p, x.q)
		}
		expectNext(t, x.p, x.q, false)
	}
	for _, bad := range bads() {
		for _, good := range goods() {
			good.Epoch = bad.Epoch + 1
			expectNext(t, bad, good, false)
			good.Epoch = bad.Epoch - 1
			expectNext(t, good, bad, false)
		}
		before, behind := bad, bad
		before.Epoch--
		behind.Epoch++
		expectNext(t, before, bad, false)
		expectNext(t, bad, behind, false)
	}
}

// P7.1, P7.4: all short chains behind a few
func TestNextOfAllShortOnes(t *testing.T) {
	passed := 0
	hold := func(p, q api.Projection) {
		t.Helper()
		want := mayCome(p, q)
		if proj.Next(p, q) != want {
			t.Errorf("Next(%v, %v) is %v", p, q, !want)
		}
		if want {
			passed++
		}
	}
	for _, l := range lists([]int{0, 1, 2, 3, 4, 5, 15}, 4) {
		hold(of(4, []int{0, 1, 2, 3}), of(5, l))
		hold(of(4, []int{2, 0, 1}, []int{3}), of(5, l, []int{3}))
		hold(of(4, []int{3}, []int{1, 2}), of(5, []int{3}, l))
		hold(of(4, l), of(5, []int{2, 3}))
		hold(of(4, l, []int{5}), of(5, []int{1, 0}, []int{5, 4}))
	}
	two := lists([]int{0, 1, 2, 3, 4}, 3)
	for _, a := range two {
		for _, b := range two {
			hold(of(4, []int{0, 1}, []int{2, 3}), of(5, a, b))
			hold(of(4, a, b), of(5, []int{0, 3}, []int{2, 4}))
		}
	}
	if passed == 0 {
		t.Error("none of them may come next")
	}
}

// someNext is one that may come next behind p, and follows no simple rule.
func someNext(r *rand.Rand, p api.Projection) api.Projection {
	q := of(p.Epoch + 1)
	fresh := slices.DeleteFunc(r.Perm(16), func(u int) bool { return slices.Contains(unitsOf(p), u) })
	for _, chain := range p.Chains {
		keep := chain[r.Intn(len(chain))]
		stay := slices.DeleteFunc(slices.Clone(chain), func(u int) bool { return u != keep && r.Intn(2) == 0 })
		n := min(r.Intn(4-len(stay)+1), len(fresh))
		q.Chains = append(q.Chains, append(stay, fresh[:n]...))
		fresh = fresh[n:]
	}
	return q
}

// P7.1, P7.4: those that follow no simple rule
func TestNextOfAny(t *testing.T) {
	r := rand.New(rand.NewSource(71))
	for range 20000 {
		p := someGood(r)
		p.Epoch = r.Intn(maxEpoch)
		q := someNext(r, p)
		expectNext(t, p, q, true)
		i, k := r.Intn(len(q.Chains)), r.Intn(len(q.Chains))
		switch r.Intn(4) {
		case 0:
			q.Chains[i], q.Chains[k] = q.Chains[k], q.Chains[i]
		case 1:
			a, b := &q.Chains[i][r.Intn(len(q.Chains[i]))], &q.Chains[k][r.Intn(len(q.Chains[k]))]
			*a, *b = *b, *a
		case 2:
			q.Chains[i][r.Intn(len(q.Chains[i]))] = r.Intn(17)
		default:
			q.Epoch += r.Intn(3) - 1
		}
		expectNext(t, p, q, mayCome(p, q))
		expectNext(t, q, p, mayCome(q, p))
	}
}

// P7.4: the first unit of each chain of one that comes next stood in that chain ahead.
func TestNextBegins(t *testing.T) {
	r := rand.New(rand.NewSource(74))
	passed := 0
	for range 20000 {
		p, q := someGood(r), someGood(r)
		q.Epoch = p.Epoch + 1
		if r.Intn(2) == 0 {
			q = someNext(r, p)
			i := r.Intn(len(q.Chains))
			q.Chains[i][0] = r.Intn(16)
		}
		if !proj.Next(p, q) {
			continue
		}
		passed++
		for i, chain := range q.Chains {
			if !slices.Contains(p.Chains[i], chain[0]) {
				t.Errorf("Next(%v, %v) is true", p, q)
			}
		}
	}
	if passed == 0 {
		t.Error("none of them may come next")
	}
}
