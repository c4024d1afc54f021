package layout_test

import (
	"math"
	"reflect"
	"slices"
	"testing"

	"escheat/api"
	"escheat/layout"
)

// P12.2: the chapter's example
func TestExample(t *testing.T) {
	l := begun(t, of(0, []int{0, 1}, []int{2, 3}))
	next := of(1, []int{1}, []int{2, 3, 4})
	expect(t, l, changeOf(next), api.Answer{P: next})
	if !reflect.DeepEqual(l.Now(), next) {
		t.Errorf("%v counts", l.Now())
	}
}

// P12.1: of each projection that is good: it counts, its units were used, and there is no image.
func TestNew(t *testing.T) {
	for _, x := range []struct {
		p    api.Projection
		used []int
	}{
		{of(0, []int{0}), []int{0}},
		{of(1, []int{15}), []int{15}},
		{of(maxEpoch, []int{7}), []int{7}},
		{of(258, []int{6, 5}, []int{7}), []int{5, 6, 7}},
		{of(4, []int{9, 0, 3}, []int{2, 11}, []int{1, 4, 15, 8}), []int{0, 1, 2, 3, 4, 8, 9, 11, 15}},
		{of(maxEpoch-1, []int{15}, []int{0}, []int{14}, []int{1}), []int{0, 1, 14, 15}},
		{of(7, []int{3, 2, 1, 0}, []int{7, 6, 5, 4}, []int{11, 10, 9, 8}, []int{15, 14, 13, 12}), []int{0, 1, 2, 3, 4, 5, 6, 7, 8, 9, 10, 11, 12, 13, 14, 15}},
	} {
		l := begun(t, x.p)
		expectIdle(t, l, lookOf(), api.Answer{P: x.p, Mark: -1, Size: 0, N: -1})
		expectUsed(t, l, x.used...)
		if !reflect.DeepEqual(l.Now(), x.p) {
			t.Errorf("%v counts, not %v", l.Now(), x.p)
		}
	}
}

// P12.1: of each that is not good
func TestNewNotGood(t *testing.T) {
	for _, p := range bads() {
		if l, err := layout.New(p); l != nil || err != api.ErrForm {
			t.Errorf("New(%s): %v", ask(changeOf(p)), err)
		}
	}
}

// bads are some that are not good, those just outside the edges among them.
func bads() []api.Projection {
	l := []api.Projection{
		{}, {Chains: [][]int{}}, of(0), of(1, nil), of(1, []int{}), of(1, []int{0}, nil), of(1, nil, []int{0}), of(1, []int{0}, []int{}, []int{1}),
		of(1, []int{-1}), of(1, []int{16}), of(1, []int{0, 16}), of(1, []int{0}, []int{-1}), of(1, []int{0, 1, 256}), of(1, []int{math.MaxInt}, []int{math.MinInt}),
		of(1, []int{1, 1}), of(1, []int{1}, []int{2, 1}), of(1, []int{0, 1, 2, 0}), of(1, []int{3}, []int{4}, []int{5}, []int{3}),
		of(1, []int{0, 1, 2, 3, 4}), of(1, []int{9}, []int{4, 5, 6, 7, 8}), of(1, []int{0}, []int{1}, []int{2}, []int{3}, []int{4}),
		of(1, slices.Repeat([]int{5}, 1000)), of(1, slices.Repeat([][]int{{1}}, 257)...), of(1, slices.Repeat([][]int{nil}, 70000)...),
	}
	for _, epoch := range append([]int{-1, maxEpoch + 1}, far...) {
		if epoch < 0 || epoch > maxEpoch {
			l = append(l, of(epoch, []int{0}))
		}
	}
	return l
}

// P12.1: all calls of nil
func TestNil(t *testing.T) {
	var l *layout.Layout
	for range 2 {
		for _, kind := range kinds {
			for _, n := range append([]int{-1, 0, 1, maxAddr}, far...) {
				full := api.Ask{Kind: kind, Unit: n, Epoch: n, Page: n, Size: n, N: n, Data: "a", P: of(n, []int{0})}
				expect(t, l, full, code(api.ErrArg))
			}
			expect(t, l, api.Ask{Kind: kind, Page: 1, Size: 1, N: 1, P: of(0, []int{0})}, code(api.ErrArg))
		}
		if p := l.Now(); p.Epoch != 0 || len(p.Chains) != 0 || len(l.Used()) != 0 {
			t.Errorf("of nil: %v counts, %v were used", p, l.Used())
		}
	}
}

// P12.2: chains lose units, gain them, do both, or stay as they are.
func TestChange(t *testing.T) {
	first := of(4, []int{0, 1, 2, 3}, []int{5, 4}, []int{6})
	for _, x := range []struct {
		p    api.Projection
		used []int
	}{
		{of(5, []int{0, 1, 2, 3}, []int{5, 4}, []int{6}), nil},
		{of(5, []int{0}, []int{5, 4}, []int{6}), nil},
		{of(5, []int{3}, []int{4}, []int{6}), nil},
		{of(5, []int{1, 3}, []int{5}, []int{6}), nil},
		{of(5, []int{0, 1, 2, 3}, []int{5, 4, 7}, []int{6}), []int{7}},
		{of(5, []int{0, 1, 2, 3}, []int{5, 4, 15, 8}, []int{6, 9, 7, 14}), []int{7, 8, 9, 14, 15}},
		{of(5, []int{2, 7}, []int{5, 4}, []int{6}), []int{7}},
		{of(5, []int{0, 1, 3, 12}, []int{4, 11, 10, 9}, []int{6, 8}), []int{8, 9, 10, 11, 12}},
		{of(5, []int{3, 15, 14, 13}, []int{5, 12, 11, 10}, []int{6, 9, 8, 7}), []int{7, 8, 9, 10, 11, 12, 13, 14, 15}},
	} {
		l := through(t, first, x.p)
		expectIdle(t, l, lookOf(), api.Answer{P: x.p, Mark: -1, N: -1})
		expectUsed(t, l, append([]int{0, 1, 2, 3, 4, 5, 6}, x.used...)...)
		if !reflect.DeepEqual(l.Now(), x.p) {
			t.Errorf("%v counts, not %v", l.Now(), x.p)
		}
	}
}

// P12.2: what may not come next by its chains, or is not good
func TestChangeRefused(t *testing.T) {
	l := through(t, of(3, []int{0, 1, 2}, []int{5, 4, 6}), of(4, []int{0, 1, 2}, []int{5, 4}))
	for _, p := range []api.Projection{
		of(5, []int{1, 0}, []int{5, 4}), of(5, []int{2, 0, 1}, []int{5, 4}), of(5, []int{0, 1, 2}, []int{4, 5}), // another order
		of(5, []int{8}, []int{5, 4}), of(5, []int{0}, []int{9}), of(5, []int{8, 0}, []int{5}), // a new one first
		of(5, []int{0, 8, 1}, []int{5}), of(5, []int{0}, []int{5, 8, 4}), // one that stays behind a new one
		of(5, []int{0, 4}, []int{5}), of(5, []int{0}, []int{5, 2}), of(5, []int{5, 4}, []int{0, 1}), of(5, []int{0, 8, 4}, []int{5}), // out of another chain
		of(5, []int{0, 1, 2, 5}, []int{4}),
	} {
		if !isGood(p) {
			t.Errorf("%v is not good", p)
		}
		expectRefused(t, l, p)
	}
	for _, p := range bads() {
		expectRefused(t, l, p)
		p.Epoch = 5
		if !isGood(p) {
			expectRefused(t, l, p)
		}
	}
}

// P12.2: chains that come in, go, or stand in other places
func TestChangeOfChains(t *testing.T) {
	chains := [][]int{{0}, {1}, {2}, {3}, {4}, {5}}
	for n := 1; n <= 4; n++ {
		for m := range len(chains) + 1 {
			l := begun(t, of(0, chains[:n]...))
			if n == m {
				expect(t, l, changeOf(of(1, chains[:m]...)), api.Answer{P: of(1, chains[:m]...)})
			} else {
				expectRefused(t, l, of(1, chains[:m]...))
			}
		}
	}
	l := begun(t, of(0, []int{0, 1}, []int{2, 3}, []int{4}))
	expectRefused(t, l, of(1, []int{2, 3}, []int{0, 1}, []int{4}))
	expectRefused(t, l, of(1, []int{0, 1}, []int{4}, []int{2, 3}))
	expectRefused(t, l, of(1, []int{0, 1}, []int{2, 3}))
	expectRefused(t, l, of(1, []int{2, 3}, []int{4}))
	expectRefused(t, l, of(1, []int{0, 1}, nil, []int{4}))
	expectRefused(t, l, of(1, []int{0, 1}, []int{2, 3}, []int{4}, []int{8}))
}

// P12.2: all of it but the epoch may come next.
func TestChangeOfEpochs(t *testing.T) {
	for _, was := range []int{0, 1, 7, 255, 65535, 1 << 20, maxEpoch - 2, maxEpoch - 1, maxEpoch} {
		for _, epoch := range append([]int{-1, 0, 1, was - 2, was - 1, was, was + 1, was + 2, was + 3, was + 256, was + 1<<31, was + 1<<32 + 1, -was - 1}, far...) {
			l := begun(t, of(was, []int{0}, []int{1}))
			if epoch == was+1 && epoch <= maxEpoch {
				continue
			}
			expectRefused(t, l, of(epoch, []int{0}, []int{1}))
			expectRefused(t, l, of(epoch, []int{0, 2}, []int{1}))
		}
	}
}

// P12.2, P12.3: the one behind counts once: told again it is of the epoch that counts. None counts behind the last epoch.
func TestChangeTwice(t *testing.T) {
	l := begun(t, of(0, []int{0, 1}))
	expectRefused(t, l, of(0, []int{0, 1}))
	expectRefused(t, l, of(0, []int{0}))
	for epoch := 1; epoch < 9; epoch++ {
		next := of(epoch, []int{0, 1})
		expectRefused(t, l, of(epoch+1, []int{0, 1}))
		expect(t, l, changeOf(next), api.Answer{P: next})
		expectRefused(t, l, next)
		expectRefused(t, l, of(epoch, []int{0}))
		expectRefused(t, l, of(epoch, []int{0, 1, 2}))
		expectRefused(t, l, of(epoch-1, []int{0, 1}))
	}
	l = through(t, of(maxEpoch-2, []int{3}), of(maxEpoch-1, []int{3}), of(maxEpoch, []int{3, 4}))
	for _, epoch := range []int{0, 1, -1, maxEpoch - 1, maxEpoch, maxEpoch + 1, maxEpoch + 2, math.MinInt, math.MaxInt} {
		expectRefused(t, l, of(epoch, []int{3, 4}))
		expectRefused(t, l, of(epoch, []int{3}))
	}
}

// P12.2: but for one unit that was used it may come next.
func TestChangeComesBack(t *testing.T) {
	first, second := of(0, []int{0, 1, 2}, []int{3, 4}), of(1, []int{0, 2, 7}, []int{3, 8})
	third, fourth := of(2, []int{2, 9}, []int{3, 10}), of(3, []int{9}, []int{3})
	l := through(t, first, second, third, fourth)
	expectUsed(t, l, 0, 1, 2, 3, 4, 7, 8, 9, 10)
	for _, u := range []int{0, 1, 2, 4, 7, 8, 10} { // of the first, of those in between, and of the one ahead of what counts
		for _, p := range []api.Projection{
			of(4, []int{9, u}, []int{3}), of(4, []int{9}, []int{3, u}), of(4, []int{9, 11, u}, []int{3, 12}), of(4, []int{9, u, 11}, []int{3, 12}), of(4, []int{9, 11}, []int{3, u, 12, 13}),
		} {
			if !isBehind(l.Now(), p) {
				t.Errorf("%v may not come behind %v", p, l.Now())
			}
			expectRefused(t, l, p)
		}
	}
	expectRefused(t, l, of(4, []int{9, 0, 1}, []int{3, 4, 10}))
	last := of(4, []int{9, 11, 5}, []int{3, 12, 13, 6})
	expect(t, l, changeOf(last), api.Answer{P: last})
	expectUsed(t, l, 0, 1, 2, 3, 4, 5, 6, 7, 8, 9, 10, 11, 12, 13)
}

// P12.2: a unit that left comes never back, whichever it was, whatever counted since.
func TestChangeEachComesBack(t *testing.T) {
	for left := range 16 {
		stays, other := (left+1)%16, (left+2)%16
		l := through(t, of(0, []int{left, stays}), of(1, []int{stays}))
		for epoch := 2; epoch < 6; epoch++ {
			expectRefused(t, l, of(epoch, []int{stays, left}))
			expectRefused(t, l, of(epoch, []int{stays, other, left}))
			next := of(epoch, []int{stays, other})
			expect(t, l, changeOf(next), api.Answer{P: next})
		}
	}
}

// P12.2: a unit that stands in what counts was used, too, and may stay.
func TestChangeStays(t *testing.T) {
	l := begun(t, of(0, []int{0, 1}, []int{2}))
	for epoch := 1; epoch < 5; epoch++ {
		same := of(epoch, []int{0, 1}, []int{2})
		expect(t, l, changeOf(same), api.Answer{P: same})
		expectUsed(t, l, 0, 1, 2)
	}
}

// P12.1, P12.2: a Change that did not count used none of its units.
func TestRefusedUsesNone(t *testing.T) {
	l := begun(t, of(2, []int{0, 1}, []int{2, 3}))
	for _, p := range []api.Projection{
		of(4, []int{0, 8}, []int{2, 9}), of(2, []int{0, 8}, []int{2, 9}), of(3, []int{8, 9}, []int{10, 11}), of(3, []int{0, 8}, []int{2, 9, 8}),
		of(3, []int{0, 8}, []int{9, 2}), of(3, []int{0, 8}, []int{2, 9}, []int{10}), of(3, []int{0, 8, 9, 10, 11}, []int{2}),
	} {
		expectRefused(t, l, p)
		expectUsed(t, l, 0, 1, 2, 3)
	}
	next := of(3, []int{1}, []int{2, 3})
	expect(t, l, changeOf(next), api.Answer{P: next})
	expectRefused(t, l, of(4, []int{1, 8, 9}, []int{2, 0}))
	expectUsed(t, l, 0, 1, 2, 3)
	next = of(4, []int{1, 8, 9}, []int{2, 10, 11})
	expect(t, l, changeOf(next), api.Answer{P: next})
	expectUsed(t, l, 0, 1, 2, 3, 8, 9, 10, 11)
}

// P12.1, P12.2: units come in one by one till all were used; then none comes in any more, but who stands may stay or leave.
func TestAllUsed(t *testing.T) {
	l := begun(t, of(0, []int{15}))
	used := []int{15}
	for u := 14; u >= 0; u-- {
		next := of(15-u, []int{u + 1, u})
		expect(t, l, changeOf(next), api.Answer{P: next})
		used = slices.Insert(used, 0, u)
		expectUsed(t, l, used...)
	}
	for u := range 16 {
		expectRefused(t, l, of(16, []int{1, 0, u}))
		expectRefused(t, l, of(16, []int{0, u}))
	}
	for _, chain := range [][]int{{1, 0}, {0}, {0}} {
		next := of(l.Now().Epoch+1, chain)
		expect(t, l, changeOf(next), api.Answer{P: next})
		expectUsed(t, l, used...)
	}
}

// P12.2: each field of a Mark, at its edges; which Code it has does not hang on the image that counts.
func TestMarkFields(t *testing.T) {
	for _, before := range []api.Ask{lookOf(), markOf(7, 8, 0), markOf(9, 10, maxAddr/2), markOf(11, 12, maxAddr)} {
		for _, page := range append([]int{-1, 0, 1, 5, maxAddr - 1, maxAddr, maxAddr + 1}, far...) {
			for _, size := range append([]int{-1, 0, 1, 2, maxAddr, maxAddr + 1, maxText - 1, maxText, maxText + 1}, far...) {
				for _, next := range append([]int{-1, 0, 1, maxAddr - 1, maxAddr, maxAddr + 1}, far...) {
					l := begun(t, of(0, []int{0}))
					l.Do(before)
					was, a := l.Do(lookOf()), markOf(page, size, next)
					if page < 0 || page > maxAddr-1 || size < 1 || size > maxText || next < 0 || next > maxAddr {
						expectIdle(t, l, a, code(api.ErrArg))
					} else if next > was.N {
						expect(t, l, a, marked(page, size, next))
						expectIdle(t, l, a, marked(page, size, next))
					} else {
						expectIdle(t, l, a, marked(was.Mark, was.Size, was.N))
					}
				}
			}
		}
	}
}

// P12.2, P12.3: an N below or at the one that counts changes nothing, one above it counts.
func TestMark(t *testing.T) {
	l := begun(t, of(3, []int{0, 1}, []int{2}))
	expectIdle(t, l, lookOf(), api.Answer{P: l.Now(), Mark: -1, N: -1})
	expectIdle(t, l, markOf(4, 4, -1), code(api.ErrArg))
	expect(t, l, markOf(5, 100, 0), marked(5, 100, 0))
	expectIdle(t, l, markOf(6, 200, 0), marked(5, 100, 0))
	expect(t, l, markOf(6, 200, 1), marked(6, 200, 1))
	expectIdle(t, l, markOf(5, 100, 0), marked(6, 200, 1))
	expectIdle(t, l, markOf(9, 300, 1), marked(6, 200, 1))
	expect(t, l, markOf(0, 1, 50), marked(0, 1, 50))
	for _, next := range []int{0, 1, 2, 49, 50} {
		expectIdle(t, l, markOf(70, 3, next), marked(0, 1, 50))
	}
	expect(t, l, markOf(70, 3, 51), marked(70, 3, 51))
	expect(t, l, markOf(maxAddr-1, maxText, maxAddr), marked(maxAddr-1, maxText, maxAddr))
	for _, next := range []int{0, 51, maxAddr - 1, maxAddr} {
		expectIdle(t, l, markOf(1, 1, next), marked(maxAddr-1, maxText, maxAddr))
	}
	expectIdle(t, l, markOf(1, 1, maxAddr+1), code(api.ErrArg))
	expectIdle(t, l, lookOf(), api.Answer{P: of(3, []int{0, 1}, []int{2}), Mark: maxAddr - 1, Size: maxText, N: maxAddr})
}

// P12.2: each N behind each other one
func TestMarkBehindMark(t *testing.T) {
	edges := []int{0, 1, 2, 255, 256, 257, 4096, maxAddr - 1, maxAddr}
	for _, first := range edges {
		for _, second := range edges {
			l := begun(t, of(0, []int{0}))
			expect(t, l, markOf(30, 40, first), marked(30, 40, first))
			want := marked(30, 40, first)
			if second > first {
				want = marked(20, 10, second)
			}
			expect(t, l, markOf(20, 10, second), want)
			expectIdle(t, l, lookOf(), api.Answer{P: of(0, []int{0}), Mark: want.Mark, Size: want.Size, N: want.N})
		}
	}
}

// P12.2: a Change leaves the image, and a Mark the projection and what was used.
func TestChangeAndMarkApart(t *testing.T) {
	l := begun(t, of(0, []int{0, 1}))
	p, image := l.Now(), marked(9, 90, 0)
	expect(t, l, markOf(9, 90, 0), image)
	for i := 1; i < 12; i++ {
		if i%3 == 0 {
			expectIdle(t, l, markOf(2, 2, image.N), image)
			expectIdle(t, l, markOf(2, maxText+1, maxAddr), code(api.ErrArg))
			image = marked(10*i, 100*i, i)
			expect(t, l, markOf(10*i, 100*i, i), image)
			if !reflect.DeepEqual(l.Now(), p) {
				t.Errorf("behind a Mark %v counts, not %v", l.Now(), p)
			}
		}
		expectIdle(t, l, lookOf(), api.Answer{P: p, Mark: image.Mark, Size: image.Size, N: image.N})
		expectRefused(t, l, of(i+1, []int{0, 1}))
		p = of(i, []int{0, 1, i + 1})
		expect(t, l, changeOf(p), api.Answer{P: p})
		expectIdle(t, l, lookOf(), api.Answer{P: p, Mark: image.Mark, Size: image.Size, N: image.N})
	}
	expectUsed(t, l, 0, 1, 2, 3, 4, 5, 6, 7, 8, 9, 10, 11, 12)
}

// P12.2: each kind of question that is not the layout's
func TestForeignKinds(t *testing.T) {
	for _, l := range []*layout.Layout{
		begun(t, of(0, []int{0})), through(t, of(2, []int{3, 4}, []int{5}), of(3, []int{4, 6}, []int{5})),
	} {
		l.Do(markOf(4, 5, 6))
		next := of(l.Now().Epoch+1, l.Now().Chains...)
		for _, kind := range foreign {
			expectIdle(t, l, api.Ask{Kind: kind}, code(api.ErrArg))
			expectIdle(t, l, api.Ask{Kind: kind, Unit: 1, Epoch: next.Epoch, Page: 7, Size: 8, N: 9, Data: "a", P: next}, code(api.ErrArg))
		}
	}
}

// P12.2: each way through a few Changes, each held against the words
func TestChangesInAnyOrder(t *testing.T) {
	chains := [][]int{{0}, {1}, {2}, {3}, {0, 1}, {0, 2}, {0, 3}, {1, 0}, {1, 2}, {1, 3}, {2, 3}, {3, 2}, {2, 0}, {3, 1}, {0, 1, 2}, {0, 1, 3}}
	const steps = 3
	ways, counted := 1, 0
	for range steps {
		ways *= len(chains)
	}
	for way := range ways {
		b := made(t, of(0, []int{0, 1}, []int{5}))
		for range steps {
			b.do(changeOf(of(b.m.now().Epoch+1, chains[way%len(chains)], []int{5})))
			way /= len(chains)
		}
		counted += len(b.m.counted) - 1
	}
	if counted < ways/10 {
		t.Errorf("only %d of %d ways' Changes counted", counted, ways)
	}
}
