package order_test

import (
	"math/rand"
	"reflect"
	"testing"

	"escheat/api"
	"escheat/order"
)

// anyTail is a tail, mostly near an end, at times none.
func anyTail(r *rand.Rand) int {
	switch r.Intn(6) {
	case 0:
		return far[r.Intn(len(far))]
	case 1:
		return r.Intn(maxAddr)
	case 2, 3:
		return maxAddr + 1 - r.Intn(9)
	}
	return r.Intn(9) - 1
}

// anyEpoch is an epoch, mostly own or near it; one far above is rare, as hardly any Start is done behind it.
func anyEpoch(r *rand.Rand, own int) int {
	switch r.Intn(60) {
	case 0:
		return far[r.Intn(len(far))]
	case 1, 2, 3:
		return -r.Intn(4)
	case 4, 5, 6, 7, 8, 9:
		return own - 2 + r.Intn(5)
	}
	return own
}

// anyAsk is a question about a sequencer of that epoch, with something in each field, asked or not.
func anyAsk(r *rand.Rand, epoch int) api.Ask {
	a := api.Ask{
		Kind: own[1+r.Intn(2)], Unit: r.Int(), Epoch: anyEpoch(r, epoch), Page: anyTail(r), Size: r.Int(), N: r.Int(), Data: "data",
		P: api.Projection{Epoch: r.Int(), Chains: [][]int{{r.Intn(16)}, {1, 2}}},
	}
	switch r.Intn(12) {
	case 0:
		a.Kind = foreign[r.Intn(len(foreign))]
	case 1:
		a.Kind = api.AskStart
		a.Epoch += r.Intn(2)
	}
	return a
}

// anything crashes both or asks both, and holds that they come to the same.
func (b both) anything(r *rand.Rand) {
	b.t.Helper()
	if r.Intn(50) == 0 {
		b.crash()
	} else {
		b.do(anyAsk(r, b.m.epoch))
	}
}

// P11.1 to P11.3: calls that follow no simple rule, each held against the words
func TestAny(t *testing.T) {
	r := rand.New(rand.NewSource(11))
	for range 300 {
		b := made(t)
		for range 250 {
			b.anything(r)
		}
	}
}

// P11.3: in one epoch no number is told twice by Next, and they rise by 1, whatever else is asked between, and whoever crashed.
func TestRising(t *testing.T) {
	r := rand.New(rand.NewSource(113))
	met := 0
	for range 200 {
		o := order.New()
		last := map[int]int{}
		for range 400 {
			if r.Intn(90) == 0 {
				o.Crash()
			}
			a := anyAsk(r, o.Epoch())
			got := o.Do(a)
			if got.Code != int(api.OK) {
				continue
			}
			if a.Kind == api.AskStart {
				if _, begun := last[got.Epoch]; begun {
					t.Fatalf("epoch %d was started twice", got.Epoch)
				}
				last[got.Epoch] = a.Page - 1
			}
			if a.Kind == api.AskNext {
				if got.N != last[got.Epoch]+1 || got.Epoch != a.Epoch {
					t.Fatalf("epoch %d: %d behind %d", got.Epoch, got.N, last[got.Epoch])
				}
				last[got.Epoch] = got.N
				met++
			}
		}
	}
	if met < 1000 {
		t.Errorf("Next told only %d numbers", met)
	}
}

// P11.2: what a question has beside the fields of its kind counts for nothing, and is in no answer.
func TestOtherFields(t *testing.T) {
	r := rand.New(rand.NewSource(112))
	for range 100 {
		plain, other := made(t), made(t)
		for range 120 {
			full := anyAsk(r, plain.m.epoch)
			a := api.Ask{Kind: full.Kind, Epoch: full.Epoch}
			if a.Kind == api.AskStart {
				a.Page = full.Page
			}
			if got, want := other.do(full), plain.do(a); !reflect.DeepEqual(got, want) {
				t.Errorf("%s: %+v, not %+v", ask(full), got, want)
			}
		}
	}
}

// P11.2: of each kind, the fields that are not named for its answer are zero, with errors too.
func TestZeroFields(t *testing.T) {
	for _, o := range []*order.Order{nil, order.New(), started(t, 2, 30), started(t, 2, maxAddr)} {
		for _, kind := range kinds {
			for _, epoch := range []int{-1, 1, 2, 3} {
				got := o.Do(api.Ask{Kind: kind, Unit: 3, Epoch: epoch, Page: 40, Size: 50, N: 60, Data: "data", P: api.Projection{Epoch: 7, Chains: [][]int{{1}}}})
				n := got.N
				if got.Code != int(api.OK) || kind != api.AskNext && kind != api.AskTail {
					n = 0
				}
				if want := (api.Answer{Code: got.Code, N: n, Epoch: got.Epoch}); !reflect.DeepEqual(got, want) {
					t.Errorf("kind %d of epoch %d: %+v", kind, epoch, got)
				}
			}
		}
	}
}

// P11.1: asking what it is changes nothing, whether it knows something or not.
func TestAsking(t *testing.T) {
	o := order.New()
	for i := range 4 {
		for range 3 {
			if o.Epoch() != i-1 || o.Knows() {
				t.Errorf("epoch %d, knows %v", o.Epoch(), o.Knows())
			}
		}
		expectIdle(t, o, nextOf(i-1), code(api.ErrNoOrder, i-1))
		expect(t, o, startOf(i, 10*i), code(api.OK, i))
		for range 3 {
			if o.Epoch() != i || !o.Knows() {
				t.Errorf("epoch %d, knows %v", o.Epoch(), o.Knows())
			}
			expectIdle(t, o, tailOf(i), told(10*i, i))
		}
		expect(t, o, nextOf(i), told(10*i, i))
		o.Crash()
	}
}

// P11.1: two that were made apart know nothing of each other.
func TestApart(t *testing.T) {
	r := rand.New(rand.NewSource(111))
	for range 40 {
		one, other, third := made(t), made(t), made(t)
		third.do(startOf(1, 77))
		for range 200 {
			one.anything(r)
			other.anything(r)
			third.same()
		}
		one.crash()
		other.do(startOf(other.m.epoch+1, 0))
		third.do(nextOf(1))
		last := made(t)
		for _, b := range []both{one, other, third, last} {
			b.same()
		}
	}
}

// P11.2: a question is not changed and not kept.
func TestMemory(t *testing.T) {
	chains := [][]int{append(make([]int, 0, 4), 1, 2), {3}}
	o := order.New()
	for i, kind := range kinds {
		a := api.Ask{Kind: kind, Epoch: i, Page: 1, P: api.Projection{Epoch: 4, Chains: chains}}
		if told := o.Do(a); told.P.Chains != nil || told.P.Epoch != 0 {
			t.Errorf("kind %d told a projection", kind)
		}
	}
	if !reflect.DeepEqual(chains, [][]int{{1, 2}, {3}}) || !reflect.DeepEqual(chains[0][:4], []int{1, 2, 0, 0}) {
		t.Errorf("%v, %v", chains, chains[0][:4])
	}
}
