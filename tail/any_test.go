package tail_test

import (
	"math/rand"
	"testing"

	"escheat/api"
)

// anyOf is one of l.
func anyOf[T any](r *rand.Rand, l []T) T { return l[r.Intn(len(l))] }

// anyPlan is a projection that follows no simple rule: good more often than not.
func anyPlan(r *rand.Rand) api.Projection {
	if r.Intn(5) == 0 {
		return anyOf(r, bads())
	}
	q := of(r.Intn(9))
	units := r.Perm(maxUnits)
	for range 1 + r.Intn(4) {
		n := 1 + r.Intn(4)
		q.Chains, units = append(q.Chains, units[:n:n]), units[n:]
	}
	return q
}

// anyAnswer is an answer with something in each field; one that does not end a tail, more often than not.
func anyAnswer(r *rand.Rand) api.Answer {
	x := api.Answer{
		Code: int(anyOf(r, []api.Errno{api.ErrSealed, api.ErrSealed, api.ErrSealed, api.ErrDown, api.ErrNoOrder})),
		N:    anyOf(r, []int{0, 1, 9, maxAddr - 1, maxAddr, maxAddr + 1, -1, r.Intn(maxAddr), r.Int(), -r.Int()}), Data: anyOf(r, []string{"", "r"}), P: anyPlan(r), Mark: r.Intn(9), Size: r.Intn(9), Epoch: r.Intn(9),
	}
	switch r.Intn(8) {
	case 0, 1, 2:
		x.Code = int(api.OK)
	case 3:
		x.Code = int(anyOf(r, codes))
	case 4:
		x.Code = r.Intn(400) - 100
	}
	return x
}

// P17.1, P17.2: answers that follow no simple rule, held against the words
func TestAny(t *testing.T) {
	r := rand.New(rand.NewSource(171))
	ends, places := map[api.Errno]int{}, map[string]int{}
	for range 20000 {
		b := made(t, anyPlan(r))
		for range 2 + r.Intn(12) {
			places[b.m.at]++
			b.hear(anyAnswer(r), r.Intn(5) > 0)
		}
		if b.m.at == "over" {
			ends[b.m.err]++
		}
	}
	for _, at := range []string{"layout", "tail", "over"} {
		if places[at] < 10000 {
			t.Errorf("at %s were %d", at, places[at])
		}
	}
	for _, err := range []api.Errno{api.OK, api.ErrArg, api.ErrFull, api.ErrJunk} {
		if ends[err] < 20 {
			t.Errorf("over with %v were %d", err, ends[err])
		}
	}
}

// P17.1: tails that were made apart, of one projection too, know nothing of each other.
func TestApart(t *testing.T) {
	r := rand.New(rand.NewSource(172))
	for range 1000 {
		p := three()
		l := []both{made(t, p), made(t, p), made(t, next()), made(t, of(3)), made(t, p)}
		still, asking, over := made(t, p), made(t, p), made(t, p)
		asking.answers(sealed)
		over.answers(number(11))
		for range 20 {
			anyOf(r, l).hear(anyAnswer(r), r.Intn(5) > 0)
			for _, other := range l {
				other.same()
			}
			still.expectAt("tail")
			asking.expectAt("layout")
			over.expectAt("over")
		}
		still.answers(sealed, plan(next()), number(2))
		asking.answers(plan(p), number(3))
		over.same()
		made(t, p).expectAt("tail")
	}
}

// P17.2: two that hear the same come to the same, whatever was asked of them between.
func TestAlike(t *testing.T) {
	r := rand.New(rand.NewSource(173))
	for range 1000 {
		one, other := made(t, three()), made(t, three())
		for range 12 {
			x, heard := anyAnswer(r), r.Intn(5) > 0
			for range r.Intn(4) {
				other.a.Ask()
				other.a.Over()
				other.a.P()
			}
			one.hear(x, heard)
			other.hear(x, heard)
			if a, b := show(one.a), show(other.a); a != b {
				t.Fatalf("one is at %s, the other at %s", a, b)
			}
		}
	}
}
