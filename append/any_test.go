package append_test

import (
	"fmt"
	"math/rand"
	"testing"

	"escheat/api"
)

// anyOf is one of l.
func anyOf[T any](r *rand.Rand, l []T) T { return l[r.Intn(len(l))] }

// anyPlan is a projection that follows no simple rule: good more often than not, at times of the Epoch of p.
func anyPlan(r *rand.Rand, p api.Projection) api.Projection {
	if r.Intn(5) == 0 {
		return anyOf(r, bads())
	}
	q := of(r.Intn(9))
	if r.Intn(3) == 0 {
		q.Epoch = p.Epoch
	}
	units := r.Perm(maxUnits)
	for range 1 + r.Intn(4) {
		n := 1 + r.Intn(4)
		q.Chains, units = append(q.Chains, units[:n:n]), units[n:]
	}
	return q
}

// usual are Codes that mostly do not end an append at that place.
func usual(name string) []api.Errno {
	l := []api.Errno{api.OK, api.OK, api.OK, api.OK, api.OK, api.OK, api.OK, api.ErrDown, api.ErrNoOrder, api.ErrTrimmed}
	switch name {
	case "write":
		return append(l, api.ErrWritten, api.ErrWritten, api.ErrWritten)
	case "look":
		return append(l, api.ErrUnwrit, api.ErrUnwrit, api.ErrJunk)
	}
	return append(l, api.ErrSealed, api.ErrSealed, api.ErrArg)
}

// anyAnswer is an answer with something in each field; one that does not end an append where m is, more often than not.
func anyAnswer(r *rand.Rand, m *model) api.Answer {
	x := api.Answer{
		Code: int(anyOf(r, usual(m.at.name))),
		N:    anyOf(r, []int{0, 1, 2, 3, 9, maxAddr - 1, maxAddr, -1, r.Intn(maxAddr), r.Intn(maxAddr)}), Data: anyOf(r, []string{m.rec, m.rec, m.rec, m.rec + "r", ""}), P: anyPlan(r, m.p), Mark: r.Intn(9), Size: r.Intn(9), Epoch: r.Intn(9),
	}
	switch r.Intn(40) {
	case 0:
		x.Code = int(anyOf(r, []api.Errno{api.ErrFull, api.ErrSealed}))
	case 1:
		x.Code = int(anyOf(r, codes))
	case 2:
		x.Code = r.Intn(400) - 100
	}
	return x
}

// P15.1 to P15.3: answers that follow no simple rule, held against the words
func TestAny(t *testing.T) {
	r := rand.New(rand.NewSource(151))
	ends, places := map[api.Errno]int{}, map[string]int{}
	for range 8000 {
		b := made(t, anyPlan(r, three()), anyOf(r, append(records(), longer)))
		for range 5 + r.Intn(40) {
			b.hear(anyAnswer(r, b.m), r.Intn(7) > 0)
			places[fmt.Sprint(b.m.at.name, b.m.at.i)]++
		}
		if _, err, over := b.a.Over(); over {
			ends[err]++
		}
	}
	for _, place := range []string{"layout0", "check0", "check3", "token0", "write0", "write1", "write2", "write3", "look0", "look1", "look2", "look3", "over0"} {
		if places[place] < 50 {
			t.Errorf("at %s were %d", place, places[place])
		}
	}
	for _, err := range []api.Errno{api.OK, api.ErrArg, api.ErrLong, api.ErrFull, api.ErrTime, api.ErrJunk} {
		if ends[err] < 5 {
			t.Errorf("over with %v were %d", err, ends[err])
		}
	}
}

// P15.1: appends that were made apart, of one projection and one record too, know nothing of each other.
func TestApart(t *testing.T) {
	r := rand.New(rand.NewSource(152))
	for range 400 {
		p := three()
		l := []both{made(t, p, "r"), made(t, p, "r"), made(t, p, "s"), made(t, next(), "r"), made(t, of(3), "r")}
		still := made(t, p, "r")
		still.answers(number(9), ok, written)
		for range 60 {
			b := anyOf(r, l)
			b.hear(anyAnswer(r, b.m), r.Intn(7) > 0)
			for _, other := range l {
				other.same()
			}
			still.expectAt("look", 1, 9)
		}
		still.answers(data("r"), ok)
		still.expectAt("over", 0, 9)
		begun := made(t, p, "r")
		begun.expectAt("token", 0, 0)
	}
}

// P15.3: two that hear the same come to the same, whatever was asked of them between.
func TestAlike(t *testing.T) {
	r := rand.New(rand.NewSource(153))
	for range 400 {
		one, other := made(t, three(), "r"), made(t, three(), "r")
		for range 40 {
			x, heard := anyAnswer(r, one.m), r.Intn(7) > 0
			for range r.Intn(4) {
				other.a.Ask()
				other.a.Over()
				other.a.P()
			}
			one.hear(x, heard)
			other.hear(x, heard)
			if a, b := show(one.a), show(other.a); a != b {
				t.Fatalf("one is at %s, the other at %s", a, b)
			}
		}
	}
}
