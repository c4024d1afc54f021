package hand_test

import (
	"fmt"
	"math/rand"
	"slices"
	"testing"

	"escheat/api"
	"escheat/hand"
	"escheat/rpc"
)

// anyChange is a projection that may come next behind p, or one that misses it.
func anyChange(r *rand.Rand, p api.Projection) api.Projection {
	q := of(p.Epoch + 1 + r.Intn(9)/8)
	for i, chain := range p.Chains {
		stay := slices.Clone(chain)
		if len(stay) > 1 && r.Intn(3) == 0 {
			stay = slices.Delete(stay, i%len(stay), i%len(stay)+1)
		}
		if r.Intn(4) == 0 {
			stay = append(stay, r.Intn(maxUnits+1))
		}
		q.Chains = append(q.Chains, stay)
	}
	return q
}

// anyAsk is a question that the nodes do at times, with something in each field.
func anyAsk(r *rand.Rand, n *rpc.Nodes) api.Ask {
	a := api.Ask{
		Kind: kinds[r.Intn(len(kinds))], Unit: []int{0, 7, maxUnits - 1, r.Intn(maxUnits), -1}[r.Intn(40)/9], Page: r.Intn(9), Size: r.Intn(80), N: r.Intn(40) - 1,
		Data: []string{"", "a", longer, fmt.Sprint(r.Intn(1000))}[r.Intn(4)], P: anyChange(r, n.Layout().Now()),
	}
	if r.Intn(16) == 0 {
		a.Kind = foreign[r.Intn(len(foreign))]
	}
	if slices.Contains(ofOrder, a.Kind) {
		a.Epoch = n.Order().Epoch() + r.Intn(9)/7
	} else if u := n.Unit(a.Unit); u != nil {
		a.Epoch = u.Epoch() - 1 + r.Intn(12)/5
	}
	if a.Kind == api.AskTrim && r.Intn(4) > 0 {
		a.Page = min(a.Page, 1)
	}
	return a
}

// anyFate is one of the four, at times another one.
func anyFate(r *rand.Rand) int {
	if r.Intn(12) == 0 {
		return others[r.Intn(len(others))]
	}
	return r.Intn(4)
}

// anyUpset is a thing that happens to nodes.
func anyUpset(r *rand.Rand) func(n *rpc.Nodes) {
	k, what := r.Intn(maxUnits), r.Intn(4)
	return func(n *rpc.Nodes) {
		switch what {
		case 0:
			n.Unit(k).Crash()
		case 1:
			n.Order().Crash()
		default:
			for k := range maxUnits {
				n.Unit(k).Start()
			}
		}
	}
}

// step does one thing to both.
func (b both) step(r *rand.Rand, most int) {
	b.t.Helper()
	waits := len(b.m.waiting())
	switch {
	case r.Intn(20) == 0:
		b.upset(anyUpset(r))
	case waits > r.Intn(most+1):
		k := r.Intn(waits)
		if r.Intn(12) == 0 {
			k = append(far, waits)[r.Intn(len(far)+1)]
		}
		if r.Intn(3) > 0 {
			b.do(k)
		} else {
			b.drop(k)
		}
	default:
		b.ask(anyAsk(r, b.n), anyFate(r))
	}
}

// P14.1 to P14.4: questions, fates, Do and Drop that follow no simple rule, held against the words
func TestAny(t *testing.T) {
	r := rand.New(rand.NewSource(14))
	fullest := 0
	for turn := range 60 {
		b := made(t, of(turn%3, []int{0, 7, 3}, []int{15, 4}), 1+r.Intn(6))
		most := []int{2, 9, 40, 20 * maxHeld}[turn%4]
		for range 150 + most/3 {
			b.step(r, most)
			fullest = max(fullest, len(b.m.waiting()))
			b.sameHeld()
			if r.Intn(10) == 0 {
				b.same()
			}
		}
		b.same()
		for b.do(len(b.m.waiting()) / 2) {
			b.sameHeld()
		}
		b.same()
	}
	if fullest != maxHeld {
		t.Errorf("never more than %d were held", fullest)
	}
}

// P14.2: what is lost counts for nothing: without it, all the rest comes out the same.
func TestLostCountsForNothing(t *testing.T) {
	r := rand.New(rand.NewSource(141))
	for range 40 {
		p := of(0, []int{0, 7, 3}, []int{15, 4})
		b := made(t, p, 3)
		for range 100 {
			before := show(b.n)
			waits := b.h.Held()
			fate := others[r.Intn(len(others))]
			expectNone(t, b.h, anyAsk(r, b.n), fate)
			if where := differ(show(b.n), before); len(where) > 0 || !slices.EqualFunc(waits, b.h.Held(), alike) {
				t.Fatalf("fate %d changed %v, or what is held", fate, where)
			}
			b.step(r, 9)
		}
		b.same()
	}
}

// P14.1: two hands that were made apart, over nodes that were, know nothing of each other.
func TestApart(t *testing.T) {
	r := rand.New(rand.NewSource(142))
	for range 20 {
		p := of(r.Intn(3), []int{0, 7, 3}, []int{15, 4})
		one, other, third := made(t, p, 3), made(t, p, 3), made(t, of(1, []int{0, 1}), 2)
		third.ask(full(api.AskWrite, 3), api.Held)
		for range 100 {
			one.step(r, 9)
			other.step(r, 40)
		}
		for _, b := range []both{one, other, third, made(t, p, 3)} {
			b.same()
		}
		expectHeld(t, third.h, full(api.AskWrite, 3))
		if one.h.Nodes() == other.h.Nodes() {
			t.Errorf("two that were made apart have one's nodes")
		}
	}
}

// P14.1: two hands over the same nodes hold each its own; what one has done is seen by both.
func TestTwoOverOne(t *testing.T) {
	n := begun(t, of(0, []int{0, 1}), maxPages)
	one, other := hand.New(n), hand.New(n)
	for at := range maxHeld + 1 {
		expectNone(t, one, writeOf(1, at), api.Held)
		if at < 3 {
			expectNone(t, other, writeOf(2, at), api.Held)
		}
	}
	if len(one.Held()) != maxHeld || !slices.Equal(pagesOf(other.Held()), []int{0, 1, 2}) {
		t.Errorf("%d and %d are held", len(one.Held()), len(other.Held()))
	}
	for range maxHeld {
		one.Do(0)
	}
	if one.Do(0) || one.Drop(0) || n.Unit(2).Pages().Used() != 0 || n.Unit(1).Pages().Used() != maxHeld {
		t.Errorf("one did what the other holds")
	}
	other.Drop(1)
	for other.Do(0) {
	}
	expectHeard(t, one, to(2, api.AskRead, 0, 2, ""), api.Answer{Data: "page 2"})
	expectHeard(t, other, to(1, api.AskRead, 0, 63, ""), api.Answer{Data: "page 63"})
	expectHeard(t, one, to(2, api.AskRead, 0, 1, ""), code(api.ErrUnwrit))
	expectHeard(t, one, nextOf(0), number(0, 0))
	expectHeard(t, other, nextOf(0), number(1, 0))
}
