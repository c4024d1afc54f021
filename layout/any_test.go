package layout_test

import (
	"math/rand"
	"reflect"
	"slices"
	"testing"

	"escheat/api"
	"escheat/layout"
)

// anyFirst is a projection that is good, at times near the last epoch.
func anyFirst(r *rand.Rand) api.Projection {
	units, p := r.Perm(16), of(r.Intn(5))
	if r.Intn(6) == 0 {
		p.Epoch = maxEpoch - r.Intn(4)
	}
	for range 1 + r.Intn(4) {
		n := 1 + r.Intn(4)
		p.Chains, units = append(p.Chains, slices.Clone(units[:n])), units[n:]
	}
	return p
}

// anyBehind is a projection like those that come next behind p: some units leave, some others come in.
func anyBehind(r *rand.Rand, p api.Projection) api.Projection {
	q := of(p.Epoch + 1)
	others := slices.DeleteFunc(r.Perm(16), func(u int) bool { return stands(p, u) })
	for _, chain := range p.Chains {
		keep := chain[r.Intn(len(chain))]
		stay := slices.DeleteFunc(slices.Clone(chain), func(u int) bool { return u != keep && r.Intn(5) == 0 })
		n := 0
		if len(stay) < 4 && len(others) > 0 && r.Intn(5) == 0 {
			n = 1
		}
		q.Chains, others = append(q.Chains, append(stay, others[:n]...)), others[n:]
	}
	return q
}

// anyChange is a projection that may come next behind p, or one that at times just misses it.
func anyChange(r *rand.Rand, p api.Projection) api.Projection {
	q := anyBehind(r, p)
	i := r.Intn(len(q.Chains))
	chain := q.Chains[i]
	switch r.Intn(14) {
	case 0:
		q.Epoch += r.Intn(5) - 2
	case 1:
		q.Epoch = far[r.Intn(len(far))]
	case 2:
		q.Chains = append(q.Chains, []int{r.Intn(16)})
	case 3:
		q.Chains = q.Chains[:i]
	case 4:
		slices.Reverse(chain)
	case 5:
		chain[r.Intn(len(chain))] = r.Intn(18) - 1
	case 6:
		q.Chains[i] = append(chain, r.Intn(16))
	case 7:
		q.Chains[i] = chain[:len(chain)-1]
	}
	return q
}

// anyNear is a number from least to most, mostly near an end, at times outside.
func anyNear(r *rand.Rand, least, most int) int {
	switch r.Intn(12) {
	case 0:
		return far[r.Intn(len(far))]
	case 1, 2:
		return least - 1 + r.Intn(3)
	case 3, 4:
		return most - 1 + r.Intn(3)
	}
	return least + r.Intn(most-least+1)
}

// anyAsk is a question about a layout such as m, with something in each field, asked or not.
func anyAsk(r *rand.Rand, m *model) api.Ask {
	a := api.Ask{
		Kind: own[r.Intn(3)], Unit: r.Int(), Epoch: m.now().Epoch + r.Intn(3), Data: "data", P: anyChange(r, m.now()),
		Page: anyNear(r, 0, maxAddr-1), Size: anyNear(r, 1, maxText), N: anyNear(r, 0, maxAddr),
	}
	if r.Intn(3) > 0 {
		a.N = m.pictures[len(m.pictures)-1].next - 3 + r.Intn(7)
	}
	if r.Intn(12) == 0 {
		a.Kind = foreign[r.Intn(len(foreign))]
	}
	return a
}

// P12.1 to P12.3: calls that follow no simple rule, each held against the words
func TestAny(t *testing.T) {
	r := rand.New(rand.NewSource(12))
	counted, back := 0, 0
	for range 600 {
		b := made(t, anyFirst(r))
		for range 60 {
			a := anyAsk(r, b.m)
			if a.Kind == api.AskChange && isBehind(b.m.now(), a.P) && b.m.comesBack(a.P) {
				back++
			}
			b.do(a)
		}
		counted += len(b.m.counted) - 1
	}
	if counted < 2000 || back < 200 {
		t.Errorf("only %d Changes counted, and %d had a unit that came back", counted, back)
	}
}

// P12.3: epochs that count rise by 1, and N never falls, whatever is asked between.
func TestRising(t *testing.T) {
	r := rand.New(rand.NewSource(123))
	changes, marks := 0, 0
	for range 300 {
		p := anyFirst(r)
		l, m := begun(t, p), modelOf(p)
		epoch, next, used := p.Epoch, -1, l.Used()
		for range 80 {
			a := anyAsk(r, m)
			got, look := l.Do(a), l.Do(lookOf())
			m.do(a)
			if look.P.Epoch != epoch && (look.P.Epoch != epoch+1 || a.Kind != api.AskChange || got.Code != int(api.OK)) {
				t.Fatalf("%s: epoch %d counts behind %d", ask(a), look.P.Epoch, epoch)
			}
			if look.N != next && (look.N < next || a.Kind != api.AskMark || look.N != a.N) {
				t.Fatalf("%s: an image of N %d counts behind %d", ask(a), look.N, next)
			}
			changes, marks = changes+look.P.Epoch-epoch, marks+min(1, look.N-next)
			epoch, next = look.P.Epoch, look.N
			before := used
			used = l.Used()
			if !slices.IsSorted(used) || slices.ContainsFunc(before, func(u int) bool { return !slices.Contains(used, u) }) {
				t.Fatalf("%s: %v were used behind %v", ask(a), used, before)
			}
		}
	}
	if changes < 1000 || marks < 1000 {
		t.Errorf("only %d projections and %d images counted", changes, marks)
	}
}

// P12.2: what a question has beside the fields of its kind counts for nothing, and is in no answer.
func TestOtherFields(t *testing.T) {
	r := rand.New(rand.NewSource(122))
	for range 200 {
		p := anyFirst(r)
		plain, other := made(t, p), made(t, p)
		for range 60 {
			full := anyAsk(r, plain.m)
			a := api.Ask{Kind: full.Kind}
			switch a.Kind {
			case api.AskChange:
				a.P = full.P
			case api.AskMark:
				a.Page, a.Size, a.N = full.Page, full.Size, full.N
			}
			if got, want := other.do(full), plain.do(a); !reflect.DeepEqual(got, want) {
				t.Errorf("%s: %+v, not %+v", ask(full), got, want)
			}
		}
	}
}

// P12.2: of each kind, the fields that are not named for its answer are zero, with errors too.
func TestZeroFields(t *testing.T) {
	p := of(5, []int{3, 4}, []int{9})
	for _, kind := range kinds {
		for _, epoch := range []int{4, 5, 6, 7} {
			for _, page := range []int{-1, 40, maxAddr} {
				for _, next := range []int{-1, 5, 6, 7} {
					l := begun(t, p)
					l.Do(markOf(30, 31, 6))
					got := l.Do(api.Ask{Kind: kind, Unit: 3, Epoch: epoch, Page: page, Size: 50, N: next, Data: "data", P: of(epoch, []int{4, 6}, []int{9})})
					want := api.Answer{Code: got.Code}
					if kind == api.AskLayout || kind == api.AskChange {
						want.P = l.Now()
					}
					if kind == api.AskLayout || kind == api.AskMark && got.Code == int(api.OK) {
						want.Mark, want.Size, want.N = got.Mark, got.Size, got.N
					}
					if !reflect.DeepEqual(got, want) {
						t.Errorf("kind %d of epoch %d, page %d, N %d: %+v, not %+v", kind, epoch, page, next, got, want)
					}
				}
			}
		}
	}
}

// P12.1, P12.2: two that were made apart, of one projection too, know nothing of each other.
func TestApart(t *testing.T) {
	r := rand.New(rand.NewSource(121))
	for range 60 {
		p := anyFirst(r)
		one, other, third := made(t, p), made(t, p), made(t, of(1, []int{0, 1}))
		third.do(markOf(77, 78, 79))
		for range 60 {
			one.do(anyAsk(r, one.m))
			other.do(anyAsk(r, other.m))
			third.same()
		}
		third.do(changeOf(of(2, []int{1, 2})))
		last := made(t, p)
		for _, b := range []both{one, other, third, last} {
			b.same()
		}
	}
}

// P12.1, P12.2: what was called ahead changes no answer of a look, however often it is asked.
func TestAsking(t *testing.T) {
	l := through(t, of(0, []int{0, 1}, []int{2}), of(1, []int{1}, []int{2, 3}))
	l.Do(markOf(4, 5, 6))
	for range 3 {
		expectIdle(t, l, lookOf(), api.Answer{P: of(1, []int{1}, []int{2, 3}), Mark: 4, Size: 5, N: 6})
		expectUsed(t, l, 0, 1, 2, 3)
		layout.New(of(7, []int{9}))
		layout.New(of(-1, []int{8}))
	}
}
