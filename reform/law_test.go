package reform_test

import (
	"fmt"
	"math/rand"
	"slices"
	"testing"

	"escheat/api"
	log "escheat/append"
	"escheat/fetch"
	"escheat/hand"
	"escheat/reform"
)

// law is what went on over a hand so far: P18.4 says that what an append of an elder epoch ends behind a change lies below the tail that this told, and stood on the chains' first units when it was over; and that all that was appended is there.
type law struct {
	t     *testing.T
	h     *hand.Hand
	there map[int]string // what was appended, by addresses
	over  []change
	ends  map[api.Errno]int // how reforms were over
	later map[string]int    // appends that ended behind a change, in an elder epoch and in the latest one
}

// change is a reform that is over with OK: its epoch, the tail that it told, and what stood on the chains' first units then.
type change struct {
	epoch, tail int
	stood       map[int]string
}

func newLaw(t *testing.T, h *hand.Hand) *law {
	return &law{t: t, h: h, there: map[int]string{}, ends: map[api.Errno]int{}, later: map[string]int{}}
}

// actor is one that goes on between others, step by step; ahead is called ahead of each question, and over behind the last one.
type actor struct {
	a     asker
	ahead func(q api.Ask)
	over  func()
}

func goesOn(x *actor) bool {
	_, asks := x.a.Ask()
	return asks
}

// goOn lets one ask a question.
func (l *law) goOn(x *actor, fate int) {
	q, asks := x.a.Ask()
	if !asks {
		return
	}
	x.ahead(q)
	run(l.h, x.a, 1, func(int) int { return fate })
	if !goesOn(x) {
		x.over()
	}
}

// anAppend is an append, of which the law holds what it says.
func (l *law) anAppend(p api.Projection, rec string) *actor {
	a := log.New(p, rec)
	return &actor{a, func(api.Ask) {}, func() {
		if addr, err, _ := a.Over(); err == api.OK {
			l.append(a.P().Epoch, addr, rec)
		}
	}}
}

func (l *law) append(epoch, addr int, rec string) {
	l.t.Helper()
	if was, twice := l.there[addr]; twice {
		l.t.Errorf("address %d has %q, and %q", addr, was, rec)
	}
	l.there[addr] = rec
	for _, c := range l.over {
		if epoch >= c.epoch {
			l.later["latest"]++
		} else if l.later["elder"]++; addr >= c.tail || c.stood[addr] != rec {
			l.t.Errorf("in epoch %d an append ends with %d; in %d the tail was %d, and the first units had %v", epoch, addr, c.epoch, c.tail, c.stood)
		}
	}
}

// aReform is a reform. One that skips goes past all units that leave, up or down, as long as skips says so: nobody seals them.
func (l *law) aReform(q api.Projection, skips func() bool) *actor {
	a, tail := reform.New(q), -1
	return &actor{skipper{a, skips}, func(x api.Ask) {
		if x.Kind == api.AskStart {
			tail = x.Page
		}
	}, func() {
		err, _ := a.Over()
		if l.ends[err]++; err == api.OK {
			l.over = append(l.over, change{q.Epoch, tail, stands(l.h, q)})
		}
	}}
}

// skipper is a reform that goes past units ahead of what it asks.
type skipper struct {
	*reform.Reform
	skips func() bool
}

func (s skipper) Ask() (api.Ask, bool) {
	for s.skips() && s.Skip() {
	}
	return s.Reform.Ask()
}

func always() bool { return true }
func never() bool  { return false }

// aFetch is a fetch that mends, and fills holes.
func (l *law) aFetch(p api.Projection, addr int) *actor {
	return &actor{fetch.New(p, addr, true), func(api.Ask) {}, func() {}}
}

// expectThere holds that all that was appended is read by the projection that counts.
func (l *law) expectThere() {
	l.t.Helper()
	now := l.h.Nodes().Layout().Now()
	for addr, rec := range l.there {
		if kind, s := read(l.t, l.h, now, addr, true); kind != api.Written || s != rec {
			l.t.Errorf("%q was appended at %d, and by %v there is %d, %q", rec, addr, now, kind, s)
		}
	}
}

// everyOrder lets play choose in all ways, and tells how many there are.
func everyOrder(play func(choose func(n int) int)) int {
	var taken, of []int
	for ways := 1; ; ways++ {
		at := 0
		play(func(n int) int {
			if at == len(taken) {
				taken, of = append(taken, 0), append(of, n)
			}
			at++
			return taken[at-1]
		})
		for len(taken) > 0 && taken[len(taken)-1] == of[len(taken)-1]-1 {
			taken, of = taken[:len(taken)-1], of[:len(taken)-1]
		}
		if len(taken) == 0 {
			return ways
		}
		taken[len(taken)-1]++
	}
}

// expectLaw holds the law of these in every order, and tells how the reforms were over, and in which epochs appends ended. While a reform goes on, none of the others asks more than most times; behind that they go on one behind the other.
func expectLaw(t *testing.T, p api.Projection, most int, made func(l *law) (reforms, others []*actor)) *law {
	t.Helper()
	sum := newLaw(t, nil)
	everyOrder(func(choose func(n int) int) {
		l := newLaw(t, begun(t, p, 9))
		reforms, others := made(l)
		times := map[*actor]int{}
		for {
			changes := slices.ContainsFunc(reforms, goesOn)
			left := slices.DeleteFunc(slices.Concat(reforms, others), func(x *actor) bool {
				return !goesOn(x) || changes && slices.Contains(others, x) && times[x] == most
			})
			if len(left) == 0 {
				break
			}
			x := left[0]
			if changes {
				x = left[choose(len(left))]
			}
			times[x]++
			l.goOn(x, api.Heard)
		}
		l.expectThere()
		for err, many := range l.ends {
			sum.ends[err] += many
		}
		for epoch, many := range l.later {
			sum.later[epoch] += many
		}
		if l.ends[api.OK] == 0 {
			t.Errorf("no reform ended well: %v", l.ends)
		}
	})
	return sum
}

// twos are projections that may come next behind 4 5: a unit leaves, the first one or the last one, one comes in, or the Epoch alone is another one.
func twos() []api.Projection {
	return []api.Projection{of(1, []int{4}), of(1, []int{5}), of(1, []int{4, 9}), of(1, []int{5, 9}), of(1, []int{4, 5}), of(1, []int{4, 5, 9})}
}

// P18.4: a change, and an append, in every order of their questions; units that leave are sealed, or skipped, though they are up.
func TestEveryOrder(t *testing.T) {
	for _, first := range []api.Projection{of(0, []int{4, 5}), of(0, []int{4, 5, 7}), of(0, []int{4, 5}, []int{6})} {
		for _, q := range twos() {
			q.Chains = append(q.Chains, first.Chains[1:]...)
			for i, skips := range []func() bool{never, always} {
				l := expectLaw(t, first, 6, func(l *law) ([]*actor, []*actor) {
					return []*actor{l.aReform(q, skips)}, []*actor{l.anAppend(first, "r")}
				})
				// Nobody seals the last unit, which has the record last.
				last := first.Chains[0][len(first.Chains[0])-1]
				unsealed := i == 1 && !slices.Contains(unitsOf(q), last)
				if len(l.ends) != 1 || l.later["latest"] == 0 || unsealed != (l.later["elder"] > 0) {
					t.Errorf("from %v to %v: reforms were over with %v, appends in %v", first, q, l.ends, l.later)
				}
			}
		}
	}
}

// P18.4: the same with two appends, and with a fetch of the append's address that mends or fills it
func TestEveryOrderOfMore(t *testing.T) {
	p := of(0, []int{4, 5})
	for _, q := range twos() {
		for _, skips := range []func() bool{always, never} {
			expectLaw(t, p, 3, func(l *law) ([]*actor, []*actor) {
				return []*actor{l.aReform(q, skips)}, []*actor{l.anAppend(p, "r"), l.aFetch(p, 0)}
			})
		}
		expectLaw(t, p, 2, func(l *law) ([]*actor, []*actor) {
			return []*actor{l.aReform(q, always)}, []*actor{l.anAppend(p, "r"), l.anAppend(p, "s")}
		})
	}
}

// P18.4: an append, and two changes of one epoch, to the same projection and to two: each is over with OK, or tells that it may not come next.
func TestEveryOrderOfTwo(t *testing.T) {
	p := of(0, []int{4, 5})
	for _, q := range []api.Projection{of(1, []int{5, 9}), of(1, []int{4})} {
		for _, other := range []api.Projection{of(1, []int{5, 9}), of(1, []int{4, 5})} {
			l := expectLaw(t, p, 3, func(l *law) ([]*actor, []*actor) {
				return []*actor{l.aReform(q, always), l.aReform(other, never)}, []*actor{l.anAppend(p, "r")}
			})
			if len(l.ends) != 2 || l.ends[api.ErrNext] == 0 || alike(q, other) == (l.ends[api.OK] == l.ends[api.ErrNext]) {
				t.Errorf("to %v and to %v: reforms were over with %v", q, other, l.ends)
			}
		}
	}
}

// P18.4: an append, and two changes of which one comes next behind the other, and is begun when that counts, or ahead of it, in vain
func TestEveryOrderOfThree(t *testing.T) {
	p, q, behind := of(0, []int{4, 5}), of(1, []int{5, 9}), of(2, []int{5})
	l := expectLaw(t, p, 3, func(l *law) ([]*actor, []*actor) {
		return []*actor{l.aReform(q, never), l.aReform(behind, always)}, []*actor{l.anAppend(p, "r")}
	})
	if len(l.ends) != 3 || l.ends[api.ErrNext] == 0 || l.ends[api.ErrSealed] == 0 {
		t.Errorf("reforms were over with %v", l.ends)
	}
}

// some is appends, fetches and reforms that go on between each other over one hand.
type some struct {
	*law
	r     *rand.Rand
	begun []int
	l     []*actor
}

// anyFate is Heard more often than not.
func (s *some) anyFate() int {
	if s.r.Intn(3) > 0 {
		return api.Heard
	}
	return anyOf(s.r, fates)
}

// upset does a thing to the nodes, or to what is held.
func (s *some) upset() {
	n := s.h.Nodes()
	switch s.r.Intn(12) {
	case 0, 1:
		n.Unit(anyOf(s.r, unitsOf(n.Layout().Now()))).Crash()
	case 2, 3, 4, 5:
		n.Unit(s.r.Intn(maxUnits)).Start()
	case 6:
		n.Order().Crash()
	case 7, 8, 9:
		s.h.Do(s.r.Intn(5))
	case 10:
		s.h.Drop(s.r.Intn(5))
	case 11:
		// Given up, or begun ahead of what it may come next behind.
		if len(s.l) > 0 {
			s.l = slices.Delete(s.l, 0, 1)
		}
	}
}

// anyNext may come next behind the projection that counts: units that are down leave, others at times, and some come in. Of each chain one stays that stood there from the beginning: F4 says no more.
func (s *some) anyNext() api.Projection {
	n := s.h.Nodes()
	p := n.Layout().Now()
	q, used := of(p.Epoch+1), n.Layout().Used()
	for _, chain := range p.Chains {
		leaves := func(k int) bool { return n.Unit(k).Down() || s.r.Intn(3) == 0 }
		stay := slices.DeleteFunc(slices.Clone(chain), leaves)
		if !slices.ContainsFunc(stay, func(k int) bool { return slices.Contains(s.begun, k) }) {
			// Those ahead of all that came in stood there from the beginning.
			stay = slices.Insert(slices.DeleteFunc(stay, func(k int) bool { return k == chain[0] }), 0, chain[0])
		}
		for k := s.r.Intn(maxUnits); len(stay) < 4 && !slices.Contains(used, k) && s.r.Intn(3) == 0; {
			stay, used = append(stay, k), append(used, k)
		}
		q.Chains = append(q.Chains, stay)
	}
	return q
}

// anyActor is an append more often than a fetch, or a reform; it begins with the projection that counts, or with an elder one.
func (s *some) anyActor(first api.Projection) *actor {
	p := first
	if s.r.Intn(2) == 0 {
		p = s.h.Nodes().Layout().Now()
	}
	switch s.r.Intn(8) {
	case 0, 1, 2:
		return s.aReform(s.anyNext(), func() bool { return s.r.Intn(3) > 0 })
	case 3:
		return s.aFetch(p, s.r.Intn(9))
	}
	return s.anAppend(p, fmt.Sprint("some ", len(s.there), s.r.Int()))
}

// calm is the end of all that upsets: everything is up, all reforms go on till they are over, one more is made, as the sequencer may know nothing, and all others go on till they are over.
func (s *some) calm() {
	for k := range maxUnits {
		s.h.Nodes().Unit(k).Start()
	}
	for _, x := range s.l {
		if _, ok := x.a.(skipper); ok {
			for asked := 0; goesOn(x); asked++ {
				if s.goOn(x, api.Heard); asked > maxUnits+3 {
					s.t.Fatalf("a reform asks more than that")
				}
			}
		}
	}
	changed(s.t, s.h, s.anyNext())
	for range 300 {
		for _, x := range s.l {
			s.goOn(x, api.Heard)
		}
	}
	for s.h.Do(0) {
	}
	if slices.ContainsFunc(s.l, goesOn) {
		s.t.Fatalf("it is not over")
	}
}

// P18.4: appends, fetches and reforms between each other, with any fates, units that crash and start, sequencers that crash, reforms that are given up, and little room: each is over at last, and the law holds.
func TestBetweenEachOther(t *testing.T) {
	r := rand.New(rand.NewSource(18))
	ends, later, there := map[api.Errno]int{}, map[string]int{}, 0
	for turn := range 6000 {
		p := of(turn%3, []int{0, 7, 3}, []int{15, 4}, []int{9})
		l := newLaw(t, begun(t, p, []int{3, 7, maxPages}[turn%3]))
		l.ends, l.later = ends, later
		s := &some{law: l, r: r, begun: unitsOf(p)}
		for range 150 {
			if len(s.l) < 12 && r.Intn(4) == 0 {
				s.l = append(s.l, s.anyActor(p))
			}
			if len(s.l) > 0 {
				x := anyOf(r, s.l)
				for range anyOf(r, []int{1, 1, 1, 1, 9}) {
					s.goOn(x, s.anyFate())
				}
			}
			if turn%4 > 0 && r.Intn(5) == 0 {
				s.upset()
			}
		}
		s.calm()
		s.expectThere()
		there += len(s.there)
	}
	for _, err := range []api.Errno{api.OK, api.ErrNext, api.ErrSealed} {
		if ends[err] < 300 {
			t.Errorf("%d reforms were over with %v", ends[err], err)
		}
	}
	if len(ends) != 3 || later["elder"] < 200 || later["latest"] < 5000 || there < 5000 {
		t.Errorf("reforms were over with %v, appends in %v, %d of them", ends, later, there)
	}
}

// P18.4: where of a chain no unit stays that has stood there since, nothing is promised: what the words of P18.2 and P18.3 come to then.
func TestNoneStays(t *testing.T) {
	p := of(0, []int{0, 1})
	h, a := begun(t, p, 9), log.New(p, "r")
	run(h, a, 2, allHeard)
	for _, q := range []api.Projection{of(1, []int{0, 5}), of(2, []int{5})} {
		b := skipper{reform.New(q), always}
		run(h, b, 99, allHeard)
		expectOver(t, b.Reform, api.OK)
		expectCounts(t, h, q)
	}
	if got := tailNow(t, h, p); got != 0 {
		t.Errorf("the tail is %d", got)
	}
	// Nobody sealed unit 1.
	run(h, a, 99, allHeard)
	if addr, err, over := a.Over(); addr != 0 || err != api.OK || !over || a.P().Epoch != 0 {
		t.Errorf("the append is over with %d, %v, %v", addr, err, over)
	}
}
