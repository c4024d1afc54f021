package tail_test

import (
	"fmt"
	"math/rand"
	"slices"
	"testing"

	"escheat/api"
	log "escheat/append"
	"escheat/hand"
	"escheat/place"
	"escheat/proj"
	"escheat/tail"
)

// law is what was appended so far over a hand: P17.3 says that what was there ahead of a question lies below the tail that it told.
type law struct {
	t     *testing.T
	h     *hand.Hand
	above int // one more than the greatest address that was appended
	tails map[int]int
	ends  map[api.Errno]int
}

func newLaw(t *testing.T, h *hand.Hand) *law {
	return &law{t: t, h: h, tails: map[int]int{}, ends: map[api.Errno]int{}}
}

// actor is one that goes on between others, step by step; ahead is called ahead of each step, and over behind the last one.
type actor struct {
	a           asker
	ahead, over func()
}

func goesOn(x *actor) bool {
	_, asks := x.a.Ask()
	return asks
}

// anAppend is an append, whose record is there once it is over with an address.
func (l *law) anAppend(p api.Projection, rec string) *actor {
	a := log.New(p, rec)
	return &actor{a, func() {}, func() {
		if addr, err, _ := a.Over(); err == api.OK {
			l.above = max(l.above, addr+1)
		}
	}}
}

// aTail is a tail, of which the law holds that all that was appended ahead of its last question lies below, and that it is the sequencer's own.
func (l *law) aTail(p api.Projection) *actor {
	a, above := tail.New(p), 0
	return &actor{a, func() { above = l.above }, func() {
		addr, err, _ := a.Over()
		order := l.h.Nodes().Order()
		if x := order.Do(tailAsk(order.Epoch())); err == api.OK && (addr != x.N || a.P().Epoch != order.Epoch()) {
			l.t.Errorf("the sequencer tells %s, and the tail is %s", told(x), show(a))
		}
		if err == api.OK && addr < above {
			l.t.Errorf("all below %d was appended, and the tail is %s", above, show(a))
		}
		l.ends[err]++
		l.tails[addr]++
	}}
}

// goOn lets one ask a question.
func (l *law) goOn(x *actor, fate int) {
	if !goesOn(x) {
		return
	}
	x.ahead()
	run(l.h, x.a, 1, func(int) int { return fate })
	if !goesOn(x) {
		x.over()
	}
}

// steps is an asker that does things to the nodes, one behind the other, as if they were questions.
type steps struct{ do []func() }

func (s *steps) Ask() (api.Ask, bool) { return layoutAsk(), len(s.do) > 0 }

func (s *steps) Hear(api.Answer, bool) {
	s.do[0]()
	s.do = s.do[1:]
}

// aReform is a new layout, in as many steps as there are units that crash, as they leave, or are sealed, and two more; nobody seals those that leave.
func (l *law) aReform(q api.Projection) *actor {
	n, p := l.h.Nodes(), l.h.Nodes().Layout().Now()
	tails, s := map[int]int{}, &steps{}
	for _, k := range proj.Units(p) {
		if slices.Contains(proj.Units(q), k) {
			s.do = append(s.do, func() { tails[k] = n.Do(api.Ask{Kind: api.AskSeal, Unit: k, Epoch: q.Epoch}).N })
		} else {
			s.do = append(s.do, n.Unit(k).Crash)
		}
	}
	s.do = append(s.do, func() { change(l.t, n, q) }, func() { start(l.t, n, q.Epoch, place.Tail(p, tails)) })
	return &actor{s, func() {}, func() {
		for _, k := range proj.Units(p) {
			n.Unit(k).Start()
		}
	}}
}

// everyOrder lets play choose in all ways, and tells how many there are.
func everyOrder(play func(choose func(n int) int)) int {
	var taken, of []int
	for ways := 1; ; ways++ {
		at := 0
		play(func(n int) int {
			if at == len(taken) {
				taken, of = append(taken, 0), append(of, n)
			}
			at++
			return taken[at-1]
		})
		for len(taken) > 0 && taken[len(taken)-1] == of[len(taken)-1]-1 {
			taken, of = taken[:len(taken)-1], of[:len(taken)-1]
		}
		if len(taken) == 0 {
			return ways
		}
		taken[len(taken)-1]++
	}
}

// expectLaw holds the law of these in every order, and that each of these tails was told in some order, and no other one. While the last of them goes on, none of the others asks more than most times.
func expectLaw(t *testing.T, p api.Projection, most int, want []int, made func(l *law) []*actor) {
	t.Helper()
	tails := map[int]int{}
	everyOrder(func(choose func(n int) int) {
		l := newLaw(t, begun(t, p, 9))
		all := made(l)
		last, times := all[len(all)-1], map[*actor]int{}
		for {
			left := slices.DeleteFunc(slices.Clone(all), func(x *actor) bool {
				return !goesOn(x) || goesOn(last) && x != last && times[x] == most
			})
			if len(left) == 0 {
				break
			}
			x := left[choose(len(left))]
			times[x]++
			l.goOn(x, api.Heard)
		}
		for at := range l.tails {
			tails[at]++
		}
		if l.ends[api.OK] == 0 || len(l.ends) != 1 {
			t.Errorf("tails were over with %v", l.ends)
		}
	})
	for _, at := range want {
		if tails[at] == 0 {
			t.Errorf("no tail was %d of %v", at, tails)
		}
	}
	if len(tails) != len(want) {
		t.Errorf("tails were %v, not %v", tails, want)
	}
}

// P17.3: tails and appends in every order of their questions
func TestEveryOrder(t *testing.T) {
	for _, p := range []api.Projection{of(0, []int{4}), of(0, []int{4, 5}), of(0, []int{4, 5}, []int{6})} {
		expectLaw(t, p, 9, []int{0, 1, 2}, func(l *law) []*actor {
			return []*actor{l.aTail(p), l.anAppend(p, "r"), l.aTail(p), l.anAppend(p, "s")}
		})
	}
}

// P17.3: a tail, and an append, in every order with the steps of a new layout, where a unit leaves that nobody seals, the first one or the last one, or one comes in; the tail begins with either projection.
func TestEveryOrderReform(t *testing.T) {
	p := of(0, []int{4, 5})
	for _, q := range []api.Projection{of(1, []int{4}), of(1, []int{5}), of(1, []int{4, 9}), of(1, []int{5, 9}), of(1, []int{4, 5}), of(1, []int{4, 5, 9})} {
		want := []int{0, 1}
		if q.Chains[0][0] == 4 {
			// What the append left on the first unit stays, and it takes another address.
			want = append(want, 2)
		}
		for _, first := range []api.Projection{p, q} {
			expectLaw(t, p, 3, want, func(l *law) []*actor {
				return []*actor{l.aTail(first), l.anAppend(p, "r"), l.aReform(q)}
			})
		}
	}
}

// some is tails and appends that go on between each other over one hand.
type some struct {
	*law
	r     *rand.Rand
	begun []int
	l     []*actor
}

// anyFate is Heard more often than not.
func (s *some) anyFate() int {
	if s.r.Intn(3) > 0 {
		return api.Heard
	}
	return anyOf(s.r, fates)
}

// upset does a thing to the nodes, or to what is held.
func (s *some) upset() {
	n := s.h.Nodes()
	switch s.r.Intn(12) {
	case 0:
		n.Unit(anyOf(s.r, proj.Units(n.Layout().Now()))).Crash()
	case 1, 2, 3:
		n.Unit(s.r.Intn(maxUnits)).Start()
	case 4:
		n.Order().Crash()
	case 5, 6:
		s.reform()
	case 7, 8, 9:
		s.h.Do(s.r.Intn(5))
	case 10:
		s.h.Drop(s.r.Intn(5))
	case 11:
		// A change that is half done.
		seal(n, n.Layout().Now(), n.Layout().Now().Epoch+s.r.Intn(2))
	}
}

// reform lets units leave that are down, and at times one come in. Of each chain one stays that stood there from the beginning: without that, what was appended would be gone.
func (s *some) reform() {
	n := s.h.Nodes()
	p := n.Layout().Now()
	q, used := of(p.Epoch+1), n.Layout().Used()
	for _, chain := range p.Chains {
		stay := slices.DeleteFunc(slices.Clone(chain), func(k int) bool { return n.Unit(k).Down() })
		if !slices.ContainsFunc(stay, func(k int) bool { return slices.Contains(s.begun, k) }) {
			n.Unit(chain[0]).Start()
			stay = slices.Insert(stay, 0, chain[0])
		}
		if k := s.r.Intn(maxUnits); len(stay) < 4 && !slices.Contains(used, k) {
			n.Unit(k).Start()
			stay, used = append(stay, k), append(used, k)
		}
		q.Chains = append(q.Chains, stay)
	}
	reform(s.t, n, q)
}

// calm is the end of all that upsets: everything is up, there is a sequencer, and all go on till they are over.
func (s *some) calm() {
	for k := range maxUnits {
		s.h.Nodes().Unit(k).Start()
	}
	s.reform()
	for range 300 {
		for _, x := range s.l {
			s.goOn(x, api.Heard)
		}
	}
	for s.h.Do(0) {
	}
	for _, x := range s.l {
		if goesOn(x) {
			s.t.Fatalf("it is not over")
		}
	}
}

// anyActor is a tail more often than an append; it begins with the projection that counts, or with an elder one.
func (s *some) anyActor(first api.Projection) *actor {
	p := first
	if s.r.Intn(2) == 0 {
		p = s.h.Nodes().Layout().Now()
	}
	if s.r.Intn(5) < 2 {
		return s.anAppend(p, fmt.Sprint("record ", len(s.l)))
	}
	return s.aTail(p)
}

// P17.3: tails and appends between each other, with any fates, units that crash, leave and come in, sequencers that crash, reforms that are half done, and little room: each is over at last, and each tail is above all that was appended ahead of its question.
func TestBetweenEachOther(t *testing.T) {
	r := rand.New(rand.NewSource(17))
	ends, tails := map[api.Errno]int{}, map[int]int{}
	for turn := range 2000 {
		p := of(turn%3, []int{0, 7, 3}, []int{15, 4}, []int{9})
		l := newLaw(t, begun(t, p, []int{2, 5, maxPages}[turn%3]))
		l.ends, l.tails = ends, tails
		s := &some{law: l, r: r, begun: proj.Units(p)}
		for range 120 {
			if len(s.l) < 16 && r.Intn(4) == 0 {
				s.l = append(s.l, s.anyActor(p))
			}
			if len(s.l) > 0 {
				s.goOn(anyOf(r, s.l), s.anyFate())
			}
			if turn%4 > 0 && r.Intn(6) == 0 {
				s.upset()
			}
		}
		s.calm()
		s.goOn(l.aTail(s.h.Nodes().Layout().Now()), api.Heard)
	}
	for at := range 6 {
		if tails[at] < 200 {
			t.Errorf("%d tails were %d", tails[at], at)
		}
	}
	if len(ends) != 1 {
		t.Errorf("tails were over with %v", ends)
	}
}
