package unit_test

import (
	"fmt"
	"math/rand"
	"reflect"
	"testing"
	"unsafe"

	"escheat/api"
	"escheat/unit"
)

// anyPage is a page, mostly one near the edge or near an end, at times none.
func anyPage(r *rand.Rand, edge int) int {
	switch r.Intn(12) {
	case 0:
		return strange[r.Intn(len(strange))]
	case 1:
		return r.Intn(maxPages)
	case 2:
		return maxPages - 1 - r.Intn(6)
	case 3, 4, 5, 6:
		return edge - 2 + r.Intn(8)
	}
	return r.Intn(14)
}

// anyKind is a kind of question, mostly one of the unit's own, and seldom a trim.
func anyKind(r *rand.Rand) int {
	switch r.Intn(16) {
	case 0:
		return foreign[r.Intn(len(foreign))]
	case 1:
		return api.AskTrim
	case 2:
		return api.AskSeal
	}
	return []int{api.AskWrite, api.AskFill, api.AskRead}[r.Intn(3)]
}

// anyEpoch is an epoch near own, at times any; one far above is rare, as nothing but itself is answered behind its seal.
func anyEpoch(r *rand.Rand, own int) int {
	switch r.Intn(100) {
	case 0:
		return strange[r.Intn(len(strange))]
	case 1, 2, 3:
		return -r.Intn(4)
	}
	return own - 1 + r.Intn(5)/2
}

// anyAsk is a question about a unit such as m, with something in each field, asked or not.
func anyAsk(r *rand.Rand, m *model) api.Ask {
	return api.Ask{
		Kind: anyKind(r), Unit: r.Intn(20) - 2, Epoch: anyEpoch(r, m.epoch), Page: anyPage(r, m.pages.Edge()), Size: r.Int(), N: r.Int(),
		Data: []string{"", "a", "b", long, longer, fmt.Sprint(r.Intn(1000))}[r.Intn(6)],
		P:    api.Projection{Epoch: r.Int(), Chains: [][]int{{r.Intn(16)}, {1, 2}}},
	}
}

// anything crashes both, starts both or asks both, and holds that they come to the same.
func (b both) anything(r *rand.Rand) {
	b.t.Helper()
	a := anyAsk(r, b.m)
	switch r.Intn(40) {
	case 0:
		b.crash()
	case 1, 2, 3:
		b.start()
	default:
		b.do(a)
	}
	b.near(a.Page)
}

// P10.1 to P10.3: calls that follow no simple rule, each held against the words
func TestAny(t *testing.T) {
	r := rand.New(rand.NewSource(10))
	for round := range 200 {
		b := made(t, []int{1, 2, 3, 5, 8, 13, 100, maxPages}[round%8])
		for range 250 {
			b.anything(r)
		}
		b.same()
	}
}

// P10.3: what was written is read as it was, as long as it is not trimmed, whatever was asked and whoever crashed since.
func TestWrittenStays(t *testing.T) {
	r := rand.New(rand.NewSource(103))
	for round := range 60 {
		u, _ := unit.New([]int{3, 9, 60, maxPages}[round%4])
		wrote, edge, epoch := map[int]string{}, 0, 0
		for i := range 150 {
			at, s := r.Intn(20)+edge/2, fmt.Sprint("text ", i)
			asks := anyEpoch(r, epoch)
			if a := u.Do(api.Ask{Kind: api.AskWrite, Epoch: asks, Page: at, Data: s}); a.Code == int(api.OK) {
				wrote[at] = s
				if asks < epoch {
					t.Fatalf("epoch %d wrote on a unit of epoch %d", asks, epoch)
				}
			}
			below := r.Intn(edge + 3)
			if a := u.Do(api.Ask{Kind: api.AskTrim, Epoch: anyEpoch(r, epoch), Page: below}); a.Code == int(api.OK) {
				edge = max(edge, below)
			}
			u.Do(api.Ask{Kind: api.AskFill, Epoch: anyEpoch(r, epoch), Page: r.Intn(20) + edge/2})
			if i%9 == 0 {
				epoch = u.Do(api.Ask{Kind: api.AskSeal, Epoch: anyEpoch(r, epoch)}).Epoch
			}
			u.Crash()
			u.Do(api.Ask{Kind: anyKind(r), Epoch: epoch + 1, Page: at, Data: "never"})
			u.Start()
			expectStays(t, u, wrote, edge, epoch)
		}
	}
}

func expectStays(t *testing.T, u *unit.Unit, wrote map[int]string, edge, epoch int) {
	t.Helper()
	for at, s := range wrote {
		if at >= edge {
			expect(t, u, api.Ask{Kind: api.AskRead, Epoch: epoch, Page: at}, api.Answer{Data: s, Epoch: epoch})
		} else {
			expect(t, u, api.Ask{Kind: api.AskRead, Epoch: epoch, Page: at}, code(api.ErrTrimmed, epoch))
		}
	}
}

// P10.2: what a question has beside the fields of its kind counts for nothing, and is in no answer.
func TestOtherFields(t *testing.T) {
	r := rand.New(rand.NewSource(102))
	for range 40 {
		plain, other := made(t, 4), made(t, 4)
		for range 120 {
			full := anyAsk(r, plain.m)
			a := api.Ask{Kind: full.Kind, Epoch: full.Epoch, Page: full.Page}
			switch a.Kind {
			case api.AskWrite:
				a.Data = full.Data
			case api.AskSeal:
				a.Page = 0
			}
			if got, want := other.do(full), plain.do(a); !reflect.DeepEqual(got, want) {
				t.Errorf("%s: %s, not %s", ask(full), told(got), told(want))
			}
			plain.near(full.Page)
			other.near(full.Page)
		}
	}
}

// P10.2: a question of any Unit is answered alike.
func TestAnyUnit(t *testing.T) {
	for _, number := range append([]int{0, 1, 15, 16}, strange...) {
		b := made(t, 3)
		for _, a := range []api.Ask{
			{Kind: api.AskWrite, Page: 1, Data: "a"}, {Kind: api.AskFill, Page: 4}, {Kind: api.AskRead, Page: 1}, {Kind: api.AskSeal, Epoch: 2}, {Kind: api.AskTrim, Epoch: 2, Page: 3}, {Kind: api.AskRead, Epoch: 1, Page: 1}, {Kind: api.AskLayout},
		} {
			a.Unit = number
			b.do(a)
			b.near(2)
		}
	}
}

// P10.1: two that were made apart know nothing of each other, whatever their room.
func TestApart(t *testing.T) {
	r := rand.New(rand.NewSource(101))
	for _, room := range []int{1, 4, 50} {
		one, other, third := made(t, room), made(t, 4), made(t, 4)
		for range 400 {
			one.anything(r)
			other.anything(r)
			third.near(r.Intn(20))
		}
		one.same()
		other.same()
		third.same()
		one.crash()
		other.do(api.Ask{Kind: api.AskSeal, Epoch: 1 << 40})
		third.do(api.Ask{Kind: api.AskWrite, Page: 1, Data: "third"})
		last := made(t, room)
		for _, b := range []both{one, other, third, last} {
			b.same()
		}
	}
}

// P10.1: asking what it is changes nothing, whether it is up or down.
func TestAsking(t *testing.T) {
	b := made(t, 3)
	b.do(api.Ask{Kind: api.AskWrite, Page: 4, Data: "d"})
	b.do(api.Ask{Kind: api.AskSeal, Epoch: 2})
	for range 3 {
		b.same()
		b.same()
		expectIdle(t, b.u, api.Ask{Kind: api.AskRead, Epoch: 9, Page: 4}, api.Answer{Data: "d", Epoch: 2})
		b.crash()
		b.same()
		b.same()
		b.start()
	}
}

// P10.2: a question is not changed and not kept, and a text that is told is new memory.
func TestMemory(t *testing.T) {
	u, _ := unit.New(3)
	bytes := []byte("hello")
	chains := [][]int{append(make([]int, 0, 4), 1, 2), {3}}
	a := api.Ask{Kind: api.AskWrite, Data: unsafe.String(&bytes[0], len(bytes)), P: api.Projection{Epoch: 4, Chains: chains}}
	u.Do(a)
	for _, kind := range append(foreign, own...) {
		told := u.Do(api.Ask{Kind: kind, P: a.P})
		if told.P.Chains != nil || told.P.Epoch != 0 {
			t.Errorf("kind %d told a projection", kind)
		}
	}
	if !reflect.DeepEqual(chains, [][]int{{1, 2}, {3}}) || !reflect.DeepEqual(chains[0][:4], []int{1, 2, 0, 0}) || string(bytes) != "hello" {
		t.Errorf("%v, %v, %q", chains, chains[0][:4], bytes)
	}
	u, _ = unit.New(3)
	u.Do(a)
	copy(bytes, "later")
	one, again := u.Do(api.Ask{Kind: api.AskRead}).Data, u.Do(api.Ask{Kind: api.AskRead}).Data
	if one != "hello" || again != "hello" || unsafe.StringData(one) == unsafe.StringData(again) {
		t.Errorf("%q, %q", one, again)
	}
	copy(unsafe.Slice(unsafe.StringData(one), len(one)), "never")
	expect(t, u, api.Ask{Kind: api.AskRead}, api.Answer{Data: "hello"})
}
