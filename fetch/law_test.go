package fetch_test

import (
	"fmt"
	"math/rand"
	"slices"
	"testing"

	"escheat/api"
	log "escheat/append"
	"escheat/fetch"
	"escheat/hand"
	"escheat/proj"
)

// law is what was told of addresses so far: P16.3 says that nobody tells otherwise then, but Trimmed.
type law struct {
	t       *testing.T
	h       *hand.Hand
	told    map[int]end
	epoch   map[int]int
	trimmed map[int]int // how many pages of a chain were asked to be trimmed
	ends    map[end]int
}

func newLaw(t *testing.T, h *hand.Hand) *law {
	return &law{t: t, h: h, told: map[int]end{}, epoch: map[int]int{}, trimmed: map[int]int{}, ends: map[end]int{}}
}

// tell holds what a fetch, or an append, told of an address by its projection against what was told ahead of it.
func (l *law) tell(addr int, what end, p api.Projection) {
	l.t.Helper()
	was, told := l.told[addr]
	switch {
	case what.err != api.OK:
		l.ends[failed(what.err)]++
		return
	case what == gone:
		if l.trimmed[addr%len(p.Chains)] <= addr/len(p.Chains) {
			l.t.Errorf("address %d is trimmed, and nobody trimmed it", addr)
		}
	case what == empty:
		if told && !l.isElder(addr, p) {
			l.t.Errorf("address %d was told %v, and is told to be empty", addr, was)
		}
	case told && what != was:
		l.t.Errorf("address %d was told %v, and is told %v", addr, was, what)
	default:
		l.told[addr], l.epoch[addr] = what, max(l.epoch[addr], p.Epoch)
	}
	l.ends[end{kind: what.kind}]++
}

// isElder tells if p is of an elder epoch than what was told of an address, and the first unit that it has there stands no longer in the projection that counts: that may have left while it was down, and nobody sealed it.
func (l *law) isElder(addr int, p api.Projection) bool {
	first := p.Chains[addr%len(p.Chains)][0]
	return p.Epoch < l.epoch[addr] && !slices.Contains(proj.Units(l.h.Nodes().Layout().Now()), first)
}

// actor is one that goes on between others, and does a thing when it is over.
type actor struct {
	a    asker
	over func()
}

// aFetch is a fetch of an address, of which the law hears what it tells.
func (l *law) aFetch(p api.Projection, addr int, fill bool) *actor {
	f := fetch.New(p, addr, fill)
	return &actor{f, func() { l.tell(addr, endOf(l.t, f), f.P()) }}
}

// anAppend is an append, of which the law hears where its record is.
func (l *law) anAppend(p api.Projection, rec string) *actor {
	a := log.New(p, rec)
	return &actor{a, func() {
		if addr, err, _ := a.Over(); err == api.OK {
			l.tell(addr, has(rec), a.P())
		}
	}}
}

// goOn lets one ask a question.
func (l *law) goOn(a *actor, fate int) {
	l.t.Helper()
	if !goesOn(a) {
		return
	}
	run(l.h, a.a, 1, func(int) int { return fate })
	if !goesOn(a) {
		a.over()
	}
}

func goesOn(a *actor) bool {
	_, asks := a.a.Ask()
	return asks
}

// once is an asker that does a thing to the nodes, as if it were one question.
type once struct{ do func() }

func (o *once) Ask() (api.Ask, bool) { return layoutAsk(), o.do != nil }

func (o *once) Hear(api.Answer, bool) {
	o.do()
	o.do = nil
}

// aReform is a new layout, at once; units that leave are down for that, and nobody seals them.
func (l *law) aReform(q api.Projection) *actor {
	return &actor{&once{func() {
		n := l.h.Nodes()
		left := slices.DeleteFunc(proj.Units(n.Layout().Now()), func(k int) bool { return slices.Contains(proj.Units(q), k) })
		for _, k := range left {
			n.Unit(k).Crash()
		}
		reform(l.t, n, q)
		for _, k := range left {
			n.Unit(k).Start()
		}
	}}, func() {}}
}

// aTrim is a trim of a unit's first page.
func (l *law) aTrim(unit, chain int) *actor {
	return &actor{&once{func() {
		l.trimmed[chain] = max(l.trimmed[chain], 1)
		put(l.t, l.h.Nodes(), gone, unit, 0)
	}}, func() {}}
}

// everyOrder lets play choose in all ways, and tells how many there are.
func everyOrder(play func(choose func(n int) int)) int {
	var taken, of []int
	for ways := 1; ; ways++ {
		at := 0
		play(func(n int) int {
			if at == len(taken) {
				taken, of = append(taken, 0), append(of, n)
			}
			at++
			return taken[at-1]
		})
		for len(taken) > 0 && taken[len(taken)-1] == of[len(taken)-1]-1 {
			taken, of = taken[:len(taken)-1], of[:len(taken)-1]
		}
		if len(taken) == 0 {
			return ways
		}
		taken[len(taken)-1]++
	}
}

// expectLaw holds the law of these in every order, and tells what was told of the address 0 in how many of them.
func expectLaw(t *testing.T, p api.Projection, made func(l *law) []*actor) map[end]int {
	t.Helper()
	told := map[end]int{}
	everyOrder(func(choose func(n int) int) {
		l := newLaw(t, begun(t, p, 9))
		all := made(l)
		for {
			left := slices.DeleteFunc(slices.Clone(all), func(a *actor) bool { return !goesOn(a) })
			if len(left) == 0 {
				break
			}
			l.goOn(left[choose(len(left))], api.Heard)
		}
		now := l.h.Nodes().Layout().Now()
		for range 2 {
			f, _ := read(l.h, now, 0, true)
			l.tell(0, endOf(t, f), f.P())
		}
		told[l.told[0]]++
	})
	return told
}

// expectTold holds that just these were told, each in some order.
func expectTold(t *testing.T, told map[end]int, want ...end) {
	t.Helper()
	for _, what := range want {
		if told[what] == 0 {
			t.Errorf("nobody was told %v of %v", what, told)
		}
	}
	if len(told) != len(want) {
		t.Errorf("told was %v, not %v", told, want)
	}
}

// P16.3: an append, and fetches of its address, with fill and without, in every order
func TestEveryOrder(t *testing.T) {
	for _, p := range []api.Projection{of(0, []int{4}), of(0, []int{4, 5}), of(0, []int{4, 5}, []int{6})} {
		expectTold(t, expectLaw(t, p, func(l *law) []*actor {
			return []*actor{l.anAppend(p, "r"), l.aFetch(p, 0, true), l.aFetch(p, 0, false)}
		}), has("r"), isJunk)
		expectTold(t, expectLaw(t, p, func(l *law) []*actor {
			return []*actor{l.anAppend(p, "r"), l.aFetch(p, 0, true), l.aFetch(p, 0, true)}
		}), has("r"), isJunk)
	}
	p := of(0, []int{4, 5, 7})
	expectTold(t, expectLaw(t, p, func(l *law) []*actor {
		return []*actor{l.anAppend(p, "r"), l.aFetch(p, 0, true)}
	}), has("r"), isJunk)
	expectTold(t, expectLaw(t, p, func(l *law) []*actor { return []*actor{l.aFetch(p, 0, true), l.aFetch(p, 0, true)} }), isJunk)
}

// P16.3: the same with a new layout meanwhile: a unit leaves that nobody seals, the first one or the last one, and one comes in
func TestEveryOrderReform(t *testing.T) {
	p := of(0, []int{4, 5})
	for _, q := range []api.Projection{of(1, []int{4}), of(1, []int{5}), of(1, []int{4, 9}), of(1, []int{5, 9}), of(1, []int{4, 5}), of(1, []int{4, 5, 9})} {
		expectTold(t, expectLaw(t, p, func(l *law) []*actor {
			return []*actor{l.anAppend(p, "r"), l.aFetch(p, 0, true), l.aReform(q)}
		}), has("r"), isJunk)
		expectTold(t, expectLaw(t, p, func(l *law) []*actor {
			return []*actor{l.anAppend(p, "r"), l.aFetch(p, 0, false), l.aReform(q)}
		}), has("r"))
		expectLaw(t, p, func(l *law) []*actor {
			return []*actor{l.aFetch(p, 0, true), l.aFetch(p, 0, false), l.aReform(q)}
		})
	}
}

// P16.3: the same with units that are trimmed meanwhile
func TestEveryOrderTrim(t *testing.T) {
	p := of(0, []int{4, 5})
	for _, rec := range []string{"r", ""} {
		told := expectLaw(t, p, func(l *law) []*actor {
			return []*actor{l.anAppend(p, rec), l.aFetch(p, 0, true), l.aTrim(4, 0), l.aTrim(5, 0)}
		})
		// Where it is trimmed ahead of all that tell, nothing else is told.
		expectTold(t, told, has(rec), isJunk, empty)
	}
}

// some is fetches, and appends, that go on between each other over one hand.
type some struct {
	*law
	r     *rand.Rand
	begun []int
	l     []*actor
}

// anyFate is Heard more often than not.
func (s *some) anyFate() int {
	if s.r.Intn(3) > 0 {
		return api.Heard
	}
	return fates[s.r.Intn(len(fates))]
}

// upset does a thing to the nodes, or to what is held.
func (s *some) upset(trims bool) {
	n := s.h.Nodes()
	k := s.r.Intn(maxUnits)
	switch s.r.Intn(12) {
	case 0, 1:
		n.Unit(anyOf(s.r, proj.Units(n.Layout().Now()))).Crash()
	case 2, 3:
		n.Unit(k).Start()
	case 4:
		n.Order().Crash()
	case 5:
		s.reform()
	case 6, 7, 8:
		s.h.Do(s.r.Intn(5))
	case 9:
		s.h.Drop(s.r.Intn(5))
	case 10:
		// A change that is half done.
		n.Do(api.Ask{Kind: api.AskSeal, Unit: k, Epoch: n.Layout().Now().Epoch + s.r.Intn(2)})
	case 11:
		if trims {
			s.trim()
		}
	}
}

// trim trims a page on a unit that may stand in a chain.
func (s *some) trim() {
	p := s.h.Nodes().Layout().Now()
	i, page := s.r.Intn(len(p.Chains)), s.r.Intn(3)
	s.trimmed[i] = max(s.trimmed[i], page)
	s.h.Ask(api.Ask{Kind: api.AskTrim, Unit: anyOf(s.r, p.Chains[i]), Epoch: p.Epoch, Page: page}, s.anyFate())
}

// reform lets units leave that are down, and at times one come in. Of each chain one stays that stood there from the beginning: without that, what is there would be gone.
func (s *some) reform() {
	n := s.h.Nodes()
	p := n.Layout().Now()
	q, used := of(p.Epoch+1), n.Layout().Used()
	for _, chain := range p.Chains {
		stay := slices.DeleteFunc(slices.Clone(chain), func(k int) bool { return n.Unit(k).Down() })
		if !slices.ContainsFunc(stay, func(k int) bool { return slices.Contains(s.begun, k) }) {
			n.Unit(chain[0]).Start()
			stay = slices.Insert(stay, 0, chain[0])
		}
		if k := s.r.Intn(maxUnits); len(stay) < 4 && !slices.Contains(used, k) {
			n.Unit(k).Start()
			stay, used = append(stay, k), append(used, k)
		}
		q.Chains = append(q.Chains, stay)
	}
	reform(s.t, n, q)
}

// calm is the end of all that upsets: everything is up, there is a sequencer, and all go on till they are over.
func (s *some) calm() {
	for k := range maxUnits {
		s.h.Nodes().Unit(k).Start()
	}
	s.reform()
	for range 300 {
		for _, a := range s.l {
			s.goOn(a, api.Heard)
		}
	}
	for s.h.Do(0) {
	}
	for _, a := range s.l {
		if goesOn(a) {
			s.t.Fatalf("it is not over")
		}
	}
}

// readAll reads all addresses that somebody may have written, and tells how many were over with an error.
func (s *some) readAll() int {
	errs := 0
	p := s.h.Nodes().Layout().Now()
	for addr := range 40 {
		f, _ := read(s.h, p, addr, addr%3 > 0)
		s.tell(addr, endOf(s.t, f), f.P())
		if endOf(s.t, f).err != api.OK {
			errs++
		}
	}
	return errs
}

// anyActor is a fetch more often than an append; it begins with the projection that counts, or with an elder one.
func (s *some) anyActor(first api.Projection) *actor {
	p := first
	if s.r.Intn(2) == 0 {
		p = s.h.Nodes().Layout().Now()
	}
	if s.r.Intn(4) == 0 {
		return s.anAppend(p, fmt.Sprint("record ", len(s.l)))
	}
	return s.aFetch(p, s.r.Intn(12), s.r.Intn(3) > 0)
}

// P16.3: fetches and appends between each other, with any fates, units that crash, leave, come in and are trimmed, and little room: each is over at last, and nobody tells otherwise than was told.
func TestBetweenEachOther(t *testing.T) {
	r, ends := rand.New(rand.NewSource(16)), map[end]int{}
	for turn := range 2500 {
		p := of(turn%3, []int{0, 7, 3}, []int{15, 4}, []int{9})
		l := newLaw(t, begun(t, p, []int{3, 5, maxPages}[turn%3]))
		l.ends = ends
		s := &some{law: l, r: r, begun: proj.Units(p)}
		for range 100 {
			if len(s.l) < 12 && r.Intn(4) == 0 {
				s.l = append(s.l, s.anyActor(p))
			}
			if len(s.l) > 0 {
				s.goOn(anyOf(r, s.l), s.anyFate())
			}
			if turn%4 > 0 && r.Intn(5) == 0 {
				s.upset(turn%4 == 3)
			}
		}
		s.calm()
		before := s.readAll()
		if after := s.readAll(); after != before || turn%3 == 2 && before > 0 {
			t.Errorf("%d were over with an error, and then %d", before, after)
		}
	}
	for _, what := range []end{{}, {kind: api.Written}, isJunk, gone, failed(api.ErrFull)} {
		if ends[what] < 50 {
			t.Errorf("%d were over with %v", ends[what], what)
		}
	}
	if len(ends) != 5 {
		t.Errorf("they were over with %v", ends)
	}
}
