package fetch_test

import (
	"fmt"
	"math/rand"
	"testing"

	"escheat/api"
)

// anyOf is one of l.
func anyOf[T any](r *rand.Rand, l []T) T { return l[r.Intn(len(l))] }

// anyPlan is a projection that follows no simple rule: good more often than not, at times of the Epoch of p.
func anyPlan(r *rand.Rand, p api.Projection) api.Projection {
	if r.Intn(5) == 0 {
		return anyOf(r, bads())
	}
	q := of(r.Intn(9))
	if r.Intn(3) == 0 {
		q.Epoch = p.Epoch
	}
	units := r.Perm(maxUnits)
	for range 1 + r.Intn(4) {
		n := 1 + r.Intn(4)
		q.Chains, units = append(q.Chains, units[:n:n]), units[n:]
	}
	return q
}

// usual are Codes that mostly do not end a fetch at that place.
func usual(name string) []api.Errno {
	l := []api.Errno{api.ErrDown, api.ErrDown, api.ErrSealed}
	switch name {
	case "last":
		return append(l, api.ErrUnwrit, api.ErrUnwrit, api.ErrUnwrit, api.ErrUnwrit, api.ErrUnwrit, api.ErrUnwrit, api.ErrUnwrit, api.OK, api.ErrJunk)
	case "first":
		return append(l, api.ErrUnwrit, api.ErrUnwrit, api.ErrUnwrit, api.OK, api.OK, api.OK, api.OK, api.ErrJunk, api.ErrJunk)
	case "junk", "mend":
		return append(l, api.OK, api.OK, api.OK, api.OK, api.OK, api.OK, api.OK, api.ErrWritten, api.ErrWritten)
	}
	return append(l, api.OK, api.OK, api.OK, api.ErrNoOrder, api.ErrArg)
}

// anyAnswer is an answer with something in each field; one that does not end a fetch where m is, more often than not.
func anyAnswer(r *rand.Rand, m *model) api.Answer {
	x := api.Answer{
		Code: int(anyOf(r, usual(m.at.name))),
		N:    r.Intn(maxAddr), Data: anyOf(r, []string{"r", "r", "s", "", longest}), P: anyPlan(r, m.p), Mark: r.Intn(9), Size: r.Intn(9), Epoch: r.Intn(9),
	}
	switch r.Intn(60) {
	case 0, 1:
		x.Code = int(anyOf(r, []api.Errno{api.ErrFull, api.ErrTrimmed, api.ErrNoOrder}))
	case 2:
		x.Code = int(anyOf(r, codes))
	case 3:
		x.Code = r.Intn(400) - 100
	}
	return x
}

// anyAddress is an address more often than not.
func anyAddress(r *rand.Rand) int {
	switch r.Intn(20) {
	case 0:
		return anyOf(r, noAddresses())
	case 1:
		return anyOf(r, addresses())
	}
	return r.Intn(maxAddr)
}

// P16.1, P16.2: answers that follow no simple rule, held against the words
func TestAny(t *testing.T) {
	r := rand.New(rand.NewSource(161))
	ends, places := map[string]int{}, map[string]int{}
	for range 12000 {
		b := made(t, anyPlan(r, three()), anyAddress(r), r.Intn(3) > 0)
		for range 5 + r.Intn(40) {
			b.hear(anyAnswer(r, b.m), r.Intn(7) > 0)
			places[fmt.Sprint(b.m.at.name, b.m.at.i)]++
		}
		if kind, _, err, over := b.f.Over(); over {
			ends[fmt.Sprint(kind, int(err))]++
		}
	}
	for _, place := range []string{"layout0", "check0", "check1", "check2", "check3", "last0", "first0", "junk0", "mend1", "mend2", "mend3", "over0"} {
		if places[place] < 50 {
			t.Errorf("at %s were %d", place, places[place])
		}
	}
	for _, err := range []api.Errno{api.ErrArg, api.ErrFull, api.ErrNoOrder, api.ErrWritten, api.ErrUnwrit} {
		if what := fmt.Sprint(api.Empty, int(err)); ends[what] < 5 {
			t.Errorf("over with %v were %d", err, ends[what])
		}
	}
	for kind := range 4 {
		if what := fmt.Sprint(kind, int(api.OK)); ends[what] < 50 {
			t.Errorf("over with kind %d were %d", kind, ends[what])
		}
	}
}

// P16.1: fetches that were made apart, of one projection and one address too, know nothing of each other.
func TestApart(t *testing.T) {
	r := rand.New(rand.NewSource(162))
	for range 400 {
		p := three()
		l := []both{made(t, p, 9, true), made(t, p, 9, true), made(t, p, 9, false), made(t, next(), 9, true), made(t, of(3), 9, true), made(t, p, 11, true)}
		still := made(t, p, 9, true)
		still.answers(unwrit, data("still"), ok)
		for range 60 {
			b := anyOf(r, l)
			b.hear(anyAnswer(r, b.m), r.Intn(7) > 0)
			for _, other := range l {
				other.same()
			}
			still.expectAt("mend", 2)
		}
		still.answers(ok)
		expectOver(t, still.f, has("still"))
		begun := made(t, p, 9, true)
		begun.expectAt("last", 0)
	}
}

// P16.2: two that hear the same come to the same, whatever was asked of them between.
func TestAlike(t *testing.T) {
	r := rand.New(rand.NewSource(163))
	for range 400 {
		one, other := made(t, three(), 9, true), made(t, three(), 9, true)
		for range 40 {
			x, heard := anyAnswer(r, one.m), r.Intn(7) > 0
			for range r.Intn(4) {
				other.f.Ask()
				other.f.Over()
				other.f.P()
			}
			one.hear(x, heard)
			other.hear(x, heard)
			if a, b := show(one.f), show(other.f); a != b {
				t.Fatalf("one is at %s, the other at %s", a, b)
			}
		}
	}
}
