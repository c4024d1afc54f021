package rpc_test

import (
	"fmt"
	"math/rand"
	"reflect"
	"slices"
	"testing"

	"escheat/api"
	"escheat/unit"
)

// anyUnit is a number of a unit, mostly one of three, at times one of no unit.
func anyUnit(r *rand.Rand) int {
	switch r.Intn(10) {
	case 0:
		return outside[r.Intn(len(outside))]
	case 1, 2:
		return r.Intn(maxUnits)
	}
	return []int{0, 7, maxUnits - 1}[r.Intn(3)]
}

// anyPage is a page that the tests see, at times none.
func anyPage(r *rand.Rand) int {
	switch r.Intn(16) {
	case 0:
		return outside[r.Intn(len(outside))]
	case 1:
		return maxPages - 1 - r.Intn(8)
	}
	return r.Intn(9)
}

// anyChange is a projection that may come next behind p, or one that misses it.
func anyChange(r *rand.Rand, p api.Projection) api.Projection {
	q := of(p.Epoch + 1)
	for i, chain := range p.Chains {
		stay := slices.Clone(chain)
		if len(stay) > 1 && r.Intn(8) == 0 {
			stay = slices.Delete(stay, i%len(stay), i%len(stay)+1)
		}
		if r.Intn(6) == 0 {
			stay = append(stay, r.Intn(maxUnits+1))
		}
		q.Chains = append(q.Chains, stay)
	}
	if r.Intn(6) == 0 {
		q.Epoch += r.Intn(4) - 2
	}
	return q
}

// anyAsk is a question to nodes such as m, with something in each field, asked or not.
func anyAsk(r *rand.Rand, m *model) api.Ask {
	a := api.Ask{
		Kind: kinds[r.Intn(len(kinds))], Unit: anyUnit(r), Page: anyPage(r), Size: r.Intn(9) * r.Intn(9), N: r.Intn(40) - 1,
		Data: []string{"", "a", longer, fmt.Sprint(r.Intn(1000))}[r.Intn(4)], P: anyChange(r, m.layout.Now()),
	}
	if r.Intn(16) == 0 {
		a.Kind = foreign[r.Intn(len(foreign))]
	}
	switch own := m.order.Epoch(); {
	case slices.Contains(ofOrder, a.Kind):
		a.Epoch = own - 1 + r.Intn(9)/4
	case 0 <= a.Unit && a.Unit < maxUnits:
		a.Epoch = m.units[a.Unit].Epoch() - 1 + r.Intn(9)/4
	}
	if a.Kind == api.AskTrim && r.Intn(4) > 0 {
		a.Page = min(a.Page, 1)
	}
	return a
}

// upset crashes a node of both, or starts one.
func (b both) upset(r *rand.Rand) {
	k := r.Intn(maxUnits)
	switch r.Intn(4) {
	case 0:
		b.n.Unit(k).Crash()
		b.m.units[k].Crash()
	case 1, 2:
		for k, u := range b.m.units {
			u.Start()
			b.n.Unit(k).Start()
		}
	default:
		b.n.Order().Crash()
		b.m.order.Crash()
	}
}

// anyFirst is a projection that is good.
func anyFirst(r *rand.Rand) api.Projection {
	units, p := r.Perm(maxUnits), of(r.Intn(5))
	for range 1 + r.Intn(4) {
		n := 1 + r.Intn(3)
		p.Chains, units = append(p.Chains, slices.Clone(units[:n])), units[n:]
	}
	return p
}

// P13.1 to P13.3: questions and crashes that follow no simple rule, held against the words; no node changes but the one that is asked, and none with an error.
func TestAny(t *testing.T) {
	r := rand.New(rand.NewSource(13))
	done := map[int]int{}
	for range 60 {
		b := made(t, anyFirst(r), 1+r.Intn(5))
		before := showNodes(b.n)
		for range 150 {
			if r.Intn(30) == 0 {
				b.upset(r)
				before = showNodes(b.n)
			}
			a := anyAsk(r, b.m)
			got := b.do(a)
			after := showNodes(b.n)
			where := differ(after, before)
			if len(where) > 0 && (got.Code != int(api.OK) || !slices.Equal(where, []string{nodeName(a)})) {
				t.Fatalf("%s: it was told %s, and %v changed", ask(a), told(got), where)
			}
			if len(where) > 0 {
				done[a.Kind]++
			}
			before = after
		}
		b.same()
	}
	for _, kind := range kinds {
		if reads := kind == api.AskRead || kind == api.AskTail || kind == api.AskLayout; !reads && done[kind] < 30 {
			t.Errorf("only %d questions of kind %d changed a node", done[kind], kind)
		}
	}
}

// P13.3: of two histories that have the same questions to one unit, that one comes out the same, whatever was asked of all others.
func TestOthersCountForNothing(t *testing.T) {
	r := rand.New(rand.NewSource(133))
	for range 60 {
		p := anyFirst(r)
		k := r.Intn(maxUnits)
		alone, among := begun(t, p, 3), made(t, p, 3)
		for range 100 {
			a := anyAsk(r, among.m)
			if a.Kind <= api.AskSeal && r.Intn(2) == 0 {
				a.Unit = k
			}
			got := among.do(a)
			if nodeName(a) == unitName(k) {
				if want := alone.Do(a); !reflect.DeepEqual(got, want) {
					t.Fatalf("%s: %s, not %s", ask(a), told(got), told(want))
				}
			}
		}
		if showUnit(alone.Unit(k)) != showUnit(among.n.Unit(k)) {
			t.Errorf("unit %d came out as another one among questions to others", k)
		}
	}
}

// P13.2: each answer is the one of the node itself, whole.
func TestAnswersOfTheNodes(t *testing.T) {
	r := rand.New(rand.NewSource(131))
	for range 30 {
		p := anyFirst(r)
		all, one := made(t, p, 3), made(t, p, 3)
		for range 120 {
			a := anyAsk(r, all.m)
			want := code(api.ErrArg)
			switch {
			case slices.Contains(ofOrder, a.Kind):
				want = one.n.Order().Do(a)
			case slices.Contains(ofLayout, a.Kind):
				want = one.n.Layout().Do(a)
			case slices.Contains(ofUnits, a.Kind):
				want = one.n.Unit(a.Unit).Do(a)
			}
			if got := all.do(a); !reflect.DeepEqual(got, want) {
				t.Errorf("%s: %s, not %s", ask(a), told(got), told(want))
			}
		}
		if where := differ(showNodes(all.n), showNodes(one.n)); len(where) > 0 {
			t.Errorf("%v are others when they are asked themselves", where)
		}
	}
}

// bare is a with the fields of its kind alone.
func bare(a api.Ask) api.Ask {
	b := api.Ask{Kind: a.Kind}
	if slices.Contains(ofUnits, a.Kind) {
		b.Unit, b.Epoch = a.Unit, a.Epoch
	}
	switch a.Kind {
	case api.AskWrite:
		b.Page, b.Data = a.Page, a.Data
	case api.AskFill, api.AskRead, api.AskTrim:
		b.Page = a.Page
	case api.AskNext, api.AskTail:
		b.Epoch = a.Epoch
	case api.AskStart:
		b.Epoch, b.Page = a.Epoch, a.Page
	case api.AskChange:
		b.P = a.P
	case api.AskMark:
		b.Page, b.Size, b.N = a.Page, a.Size, a.N
	}
	return b
}

// P13.2: what a question has beside the fields of its kind counts for nothing, and is in no answer.
func TestOtherFields(t *testing.T) {
	r := rand.New(rand.NewSource(132))
	for range 40 {
		p := anyFirst(r)
		plain, other := made(t, p, 3), made(t, p, 3)
		for range 120 {
			full := anyAsk(r, plain.m)
			if got, want := other.do(full), plain.do(bare(full)); !reflect.DeepEqual(got, want) {
				t.Errorf("%s: %s, not %s", ask(full), told(got), told(want))
			}
		}
		plain.same()
		other.same()
	}
}

// named is what is left of an answer to a question of that kind, if only the fields stay that are named for it.
func named(kind int, a api.Answer) api.Answer {
	want := api.Answer{Code: a.Code}
	ok := a.Code == int(api.OK)
	switch {
	case kind == api.AskLayout, kind == api.AskMark && ok:
		want.Mark, want.Size, want.N = a.Mark, a.Size, a.N
	case (kind == api.AskSeal || kind == api.AskNext || kind == api.AskTail) && ok:
		want.N = a.N
	case kind == api.AskRead && ok:
		want.Data = a.Data
	}
	if kind == api.AskLayout || kind == api.AskChange {
		want.P = a.P
	}
	if slices.Contains(ofUnits, kind) || slices.Contains(ofOrder, kind) {
		want.Epoch = a.Epoch
	}
	return want
}

// P13.2: of each kind, the fields that are not named for its answer are zero, with errors too.
func TestZeroFields(t *testing.T) {
	p := of(5, []int{3, 4}, []int{9})
	for _, kind := range slices.Concat(kinds, foreign) {
		for _, k := range []int{0, 3, maxUnits - 1, -1, maxUnits} {
			for _, epoch := range []int{4, 5, 6, 7} {
				for _, page := range []int{-1, 2, 4, maxAddr} {
					b := made(t, p, 2)
					b.do(to(3, api.AskWrite, 5, 2, "text"))
					b.do(to(3, api.AskSeal, 5, 0, ""))
					b.do(markOf(30, 31, 6))
					got := b.do(api.Ask{Kind: kind, Unit: k, Epoch: epoch, Page: page, Size: 50, N: 7, Data: "data", P: of(epoch, []int{4, 6}, []int{9})})
					want := named(kind, got)
					if slices.Contains(ofUnits, kind) && nodeName(api.Ask{Kind: kind, Unit: k}) == "" {
						want = code(api.ErrArg)
					}
					if !reflect.DeepEqual(got, want) {
						t.Errorf("kind %d to unit %d of epoch %d, page %d: %s, not %s", kind, k, epoch, page, told(got), told(want))
					}
				}
			}
		}
	}
}

// P13.1: two that were made apart, of one projection and room too, know nothing of each other.
func TestApart(t *testing.T) {
	r := rand.New(rand.NewSource(134))
	for range 20 {
		p := anyFirst(r)
		one, other, third := made(t, p, 3), made(t, p, 3), made(t, of(1, []int{0, 1}), 2)
		third.do(to(7, api.AskWrite, 0, 5, "third"))
		third.do(nextOf(1))
		for range 80 {
			one.do(anyAsk(r, one.m))
			other.do(anyAsk(r, other.m))
			one.upset(r)
		}
		third.same()
		third.do(changeOf(of(2, []int{1, 2})))
		last := made(t, p, 3)
		for _, b := range []both{one, other, third, last} {
			b.same()
		}
		met := map[*unit.Unit]int{}
		for _, b := range []both{one, other, third, last} {
			for k := range maxUnits {
				met[b.n.Unit(k)]++
			}
		}
		if len(met) != 4*maxUnits || one.n.Order() == other.n.Order() || one.n.Layout() == other.n.Layout() {
			t.Errorf("nodes that were made apart share some: %d units", len(met))
		}
	}
}
