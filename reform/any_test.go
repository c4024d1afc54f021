package reform_test

import (
	"math/rand"
	"slices"
	"testing"

	"escheat/api"
)

// anyOf is one of l.
func anyOf[T any](r *rand.Rand, l []T) T { return l[r.Intn(len(l))] }

// anyPlan is a projection that follows no simple rule: good more often than not.
func anyPlan(r *rand.Rand) api.Projection {
	if r.Intn(8) == 0 {
		return anyOf(r, bads())
	}
	q := of(r.Intn(9))
	units := r.Perm(maxUnits)
	for range 1 + r.Intn(4) {
		n := 1 + r.Intn(4)
		q.Chains, units = append(q.Chains, units[:n:n]), units[n:]
	}
	return q
}

// anyLater is a projection that may come next behind p, more often than not.
func anyLater(r *rand.Rand, p api.Projection) api.Projection {
	if r.Intn(8) == 0 || !isGood(p) {
		return anyPlan(r)
	}
	q, free := of(p.Epoch+1), slices.DeleteFunc(r.Perm(maxUnits), func(k int) bool { return slices.Contains(unitsOf(p), k) })
	for _, chain := range p.Chains {
		stays := r.Intn(len(chain))
		l := slices.DeleteFunc(slices.Clone(chain), func(k int) bool { return k != chain[stays] && r.Intn(2) == 0 })
		for len(l) < 4 && len(free) > 0 && r.Intn(3) == 0 {
			l, free = append(l, free[0]), free[1:]
		}
		q.Chains = append(q.Chains, l)
	}
	return spoilt(r, q)
}

// spoilt is q, or seldom, of one that is good, q with something that is otherwise.
func spoilt(r *rand.Rand, q api.Projection) api.Projection {
	if !isGood(q) {
		return q
	}
	q = copied(q)
	i := r.Intn(len(q.Chains))
	switch r.Intn(30) {
	case 0:
		q.Epoch += r.Intn(5) - 2
	case 1:
		q.Chains = q.Chains[1:]
	case 2:
		q.Chains[i] = q.Chains[i][1:]
	case 3:
		slices.Reverse(q.Chains[i])
	case 4:
		q.Chains[i] = append(q.Chains[i], r.Intn(maxUnits))
	}
	return q
}

// anyAnswer is an answer with something in each field; one that does not end a reform from p to q, more often than not.
func anyAnswer(r *rand.Rand, at string, p, q api.Projection) api.Answer {
	x := api.Answer{
		N: anyOf(r, []int{0, 1, 9, maxPages, maxPages + 1, -1, r.Intn(maxPages), r.Int(), -r.Int()}), Data: anyOf(r, []string{"", "r"}), P: anyPlan(r), Mark: r.Intn(9), Size: r.Intn(9), Epoch: anyOf(r, []int{p.Epoch, q.Epoch, q.Epoch, q.Epoch + 1, r.Intn(9)}),
	}
	switch at {
	case "layout":
		x.P = spoilt(r, p)
	case "change":
		x.P = spoilt(r, q)
		x.Code = anyOf(r, []int{int(api.OK), int(api.ErrNext), int(api.ErrNext)})
	case "start":
		x.Code = anyOf(r, []int{int(api.OK), int(api.ErrSealed), int(api.ErrSealed)})
	}
	switch r.Intn(30) {
	case 0:
		x.Code = int(anyOf(r, codes))
	case 1:
		x.Code = r.Intn(400) - 100
	case 2, 3, 4, 5, 6:
		x.Code = int(api.ErrDown)
	}
	return x
}

// anyTurn lets one hear something, or skip.
func anyTurn(r *rand.Rand, b both, p api.Projection) {
	if r.Intn(4) == 0 {
		b.skip()
		return
	}
	b.hear(anyAnswer(r, b.m.at, p, b.m.q), r.Intn(5) > 0)
}

// P18.1 to P18.3: answers and Skips that follow no simple rule, held against the words
func TestAny(t *testing.T) {
	r := rand.New(rand.NewSource(181))
	ends, places := map[api.Errno]int{}, map[string]int{}
	for range 20000 {
		p := anyPlan(r)
		b := made(t, anyLater(r, p))
		for range 40 {
			places[b.m.at]++
			if anyTurn(r, b, p); b.m.at == "over" && r.Intn(3) == 0 {
				break
			}
		}
		if b.m.at == "over" {
			ends[b.m.err]++
		}
	}
	for _, at := range []string{"layout", "seal", "change", "start", "over"} {
		if places[at] < 10000 {
			t.Errorf("at %s were %d", at, places[at])
		}
	}
	for _, err := range []api.Errno{api.OK, api.ErrForm, api.ErrNext, api.ErrSealed, api.ErrArg} {
		if ends[err] < 50 {
			t.Errorf("over with %v were %d", err, ends[err])
		}
	}
}

// P18.1: reforms that were made apart, to one projection too, know nothing of each other.
func TestApart(t *testing.T) {
	r := rand.New(rand.NewSource(182))
	for range 500 {
		q := next()
		l := []both{made(t, q), made(t, q), made(t, three()), made(t, of(3)), made(t, q)}
		still, sealing, starting, over := made(t, q), made(t, q), made(t, q), made(t, q)
		sealing.answers(plan(three()), number(5))
		starting.answers(wholeWay(pair{three(), next()})[:16]...)
		over.answers(code(api.ErrArg))
		for range 30 {
			anyTurn(r, anyOf(r, l), three())
			for _, other := range l {
				other.same()
			}
			still.expectAt("layout")
			sealing.expectAt("seal 1")
			starting.expectAt("start")
			over.expectAt("over")
		}
		still.answers(plan(three()), number(2))
		sealing.answers(number(3), number(2))
		starting.answers(ok)
		over.same()
		made(t, q).expectAt("layout")
	}
}

// P18.2: two that hear the same come to the same, whatever was asked of them between.
func TestAlike(t *testing.T) {
	r := rand.New(rand.NewSource(183))
	for range 2000 {
		p := anyPlan(r)
		q := anyLater(r, p)
		one, other := made(t, q), made(t, q)
		for range 30 {
			for range r.Intn(4) {
				other.a.Ask()
				other.a.Over()
			}
			if r.Intn(4) == 0 {
				one.skip()
				other.skip()
			} else {
				x, heard := anyAnswer(r, one.m.at, p, q), r.Intn(5) > 0
				one.hear(x, heard)
				other.hear(x, heard)
			}
			if a, b := show(one.a), show(other.a); a != b {
				t.Fatalf("one is at %s, the other at %s", a, b)
			}
		}
	}
}
