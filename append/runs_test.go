package append_test

import (
	"fmt"
	"math/rand"
	"slices"
	"testing"

	"escheat/api"
	log "escheat/append"
	"escheat/hand"
	"escheat/place"
	"escheat/proj"
	"escheat/rpc"
)

// begun is a hand over the nodes of a projection that is good, and of a room that is one.
func begun(t testing.TB, p api.Projection, room int) *hand.Hand {
	t.Helper()
	n, err := rpc.New(p, room)
	if err != api.OK {
		t.Fatalf("New(%v, %d): %v", p, room, err)
	}
	return hand.New(n)
}

// run lets an append go on, of each question the fate that fate tells, till it is over or so many were asked; it tells those.
func run(h *hand.Hand, a *log.Append, most int, fate func(k int) int) []api.Ask {
	var l []api.Ask
	for q, asks := a.Ask(); asks && len(l) < most; q, asks = a.Ask() {
		l = append(l, q)
		a.Hear(h.Ask(q, fate(len(l)-1)))
	}
	return l
}

func allHeard(int) int { return api.Heard }

// expectAsked holds that these questions were asked, one behind the other.
func expectAsked(t testing.TB, got []api.Ask, want ...api.Ask) {
	t.Helper()
	if !slices.EqualFunc(got, want, func(a, b api.Ask) bool { return asked(a) == asked(b) }) {
		t.Errorf("it asked %v, not %v", got, want)
	}
}

// pages are the places where a text stands, by unit and page.
func pages(n *rpc.Nodes, s string) (l [][2]int) {
	for k := range maxUnits {
		for at := range n.Unit(k).Pages().Tail() {
			if got, err := n.Unit(k).Pages().Read(at); err == api.OK && got == s {
				l = append(l, [2]int{k, at})
			}
		}
	}
	return l
}

// expectThere holds that an append is over with an address, at which the record stands on all units of its chain, and tells the address.
func expectThere(t testing.TB, n *rpc.Nodes, a *log.Append, rec string) int {
	t.Helper()
	addr, err, over := a.Over()
	if !over || err != api.OK {
		t.Fatalf("it is not over with an address: %s", show(a))
	}
	p := a.P()
	for _, k := range p.Chains[addr%len(p.Chains)] {
		if got, err := n.Unit(k).Pages().Read(addr / len(p.Chains)); err != api.OK || got != rec {
			t.Errorf("over with address %d of %v, and unit %d has %.20q, %v", addr, p, k, got, err)
		}
	}
	return addr
}

// reform lets q count behind the projection that does: it seals the units that are up, and starts the sequencer.
func reform(t testing.TB, n *rpc.Nodes, q api.Projection) {
	t.Helper()
	p, tails := n.Layout().Now(), map[int]int{}
	for _, k := range proj.Units(p) {
		if x := n.Do(api.Ask{Kind: api.AskSeal, Unit: k, Epoch: q.Epoch}); x.Code == 0 {
			tails[k] = x.N
		} else if slices.Contains(proj.Units(q), k) {
			t.Fatalf("unit %d is not sealed: %s", k, told(x))
		}
	}
	change(t, n, q)
	start(t, n, q.Epoch, place.Tail(p, tails))
}

func change(t testing.TB, n *rpc.Nodes, q api.Projection) {
	t.Helper()
	if x := n.Do(api.Ask{Kind: api.AskChange, P: q}); x.Code != 0 {
		t.Fatalf("%v does not count: %s", q, told(x))
	}
}

func start(t testing.TB, n *rpc.Nodes, epoch, tail int) {
	t.Helper()
	if x := n.Do(api.Ask{Kind: api.AskStart, Epoch: epoch, Page: tail}); x.Code != 0 {
		t.Fatalf("it is not started: %s", told(x))
	}
}

// P15.1 to P15.4: appends one behind the other, on chains of one to four units: Next, and Writes in the order of the chain; no other unit has anything.
func TestOneBehindTheOther(t *testing.T) {
	for _, p := range append(goods(), three()) {
		h := begun(t, p, maxPages)
		for i := range 24 {
			rec := fmt.Sprint("record ", i)
			a := log.New(p, rec)
			chain, page := p.Chains[i%len(p.Chains)], i/len(p.Chains)
			want := []api.Ask{nextAsk(p.Epoch)}
			var there [][2]int
			for _, k := range chain {
				want, there = append(want, writeAsk(p.Epoch, k, page, rec)), append(there, [2]int{k, page})
			}
			expectAsked(t, run(h, a, 99, allHeard), want...)
			expectOver(t, a, i, api.OK)
			expectThere(t, h.Nodes(), a, rec)
			slices.SortFunc(there, func(a, b [2]int) int { return a[0] - b[0] })
			if got := pages(h.Nodes(), rec); !slices.Equal(got, there) {
				t.Errorf("%q stands on %v, not on %v", rec, got, there)
			}
		}
	}
}

// fates are all fates that differ in what becomes of a question, and some that do not.
var fates = []int{api.Heard, api.Lost, api.Deaf, api.Held, 4, -1}

// P15.3, P15.4: two questions that have any fate, anywhere on the way: what is lost is asked again, and counts once.
func TestFates(t *testing.T) {
	for _, p := range []api.Projection{of(0, []int{3}), of(2, []int{4, 5}), of(0, []int{2, 0, 1}), of(1, []int{9}, []int{8, 7}), three()} {
		for k := range 8 {
			for j := range k + 1 {
				for _, one := range fates {
					for _, other := range fates {
						h := begun(t, p, maxPages)
						a := log.New(p, "r")
						run(h, a, 99, func(i int) int {
							switch i {
							case k:
								return one
							case j:
								return other
							}
							return api.Heard
						})
						addr := expectThere(t, h.Nodes(), a, "r")
						for h.Do(0) {
						}
						if expectThere(t, h.Nodes(), a, "r"); addr > 2 {
							t.Errorf("fates %d and %d of %d and %d: address %d", one, other, k, j, addr)
						}
					}
				}
			}
		}
	}
}

// P15.3: what is asked behind each fate, of the first Next and of each Write
func TestFatesAsked(t *testing.T) {
	next, first, second := nextAsk(0), writeAsk(0, 4, 0, "r"), writeAsk(0, 5, 0, "r")
	lookFirst, lookSecond := readAsk(0, 4, 0), readAsk(0, 5, 0)
	behind := []api.Ask{writeAsk(0, 4, 1, "r"), writeAsk(0, 5, 1, "r")}
	for _, fate := range fates[1:] {
		done := fate == api.Deaf
		for k, want := range [][]api.Ask{{next, next, first, second}, {next, first, first, second}, {next, first, second, second}} {
			if done {
				want = [][]api.Ask{slices.Concat([]api.Ask{next, next}, behind), {next, first, first, lookFirst, second}, {next, first, second, second, lookSecond}}[k]
			}
			p := of(0, []int{4, 5})
			h, a := begun(t, p, 9), log.New(p, "r")
			expectAsked(t, run(h, a, 99, func(i int) int {
				if i == k {
					return fate
				}
				return api.Heard
			}), want...)
			if addr := expectThere(t, h.Nodes(), a, "r"); (addr == 1) != (done && k == 0) {
				t.Errorf("fate %d of question %d: address %d", fate, k, addr)
			}
		}
	}
}

// P15.3: a unit that is down is asked again, behind the layout each time, till it is up; where it was is kept.
func TestDown(t *testing.T) {
	p := three()
	for i, k := range p.Chains[0] {
		for _, deaf := range []int{0, 1} {
			h, a := begun(t, p, 9), log.New(p, "r")
			run(h, a, 1+i, allHeard)
			was := writeAsk(3, k, 0, "r")
			if deaf == 1 {
				run(h, a, 1, func(int) int { return api.Deaf })
				run(h, a, 1, allHeard)
				was = readAsk(3, k, 0)
			}
			h.Nodes().Unit(k).Crash()
			expectAsked(t, run(h, a, 6, allHeard), was, layoutAsk(), was, layoutAsk(), was, layoutAsk())
			h.Nodes().Unit(k).Start()
			expectAsked(t, run(h, a, 1, allHeard), was)
			run(h, a, 99, allHeard)
			expectOver(t, a, 0, api.OK)
			expectThere(t, h.Nodes(), a, "r")
		}
	}
}

// laters are projections that may come next behind three: a unit leaves, one comes in, or the Epoch alone is another one.
func laters() []api.Projection {
	return []api.Projection{
		next(), of(4, three().Chains...), of(4, []int{5, 7}, []int{6}, []int{0, 1}), of(4, []int{4, 7}, []int{6}, []int{0, 1}), of(4, []int{4, 5}, []int{6}, []int{1}), of(4, []int{7}, []int{6}, []int{0, 1}), of(4, []int{4, 5, 7, 9}, []int{6, 10}, []int{0, 1, 11}),
	}
}

// P15.3, P15.4: a new layout ahead of any question of an append: what is not over goes to a new address in it.
func TestNewLayoutMeanwhile(t *testing.T) {
	for _, q := range laters() {
		for k := range 5 {
			for _, gone := range []int{-1, 4, 5, 7} {
				if slices.Contains(proj.Units(q), gone) {
					continue
				}
				h, a := begun(t, three(), 9), log.New(three(), "r")
				n := h.Nodes()
				run(h, a, k, allHeard)
				_, _, over := a.Over()
				n.Unit(max(gone, 2)).Crash()
				reform(t, n, q)
				run(h, a, 99, allHeard)
				n.Unit(max(gone, 2)).Start()
				addr := expectThere(t, n, a, "r")
				if over {
					expectP(t, a, three())
					continue
				}
				expectP(t, a, q)
				if tail := n.Do(api.Ask{Kind: api.AskTail, Epoch: 4}); tail.N != addr+1 {
					t.Errorf("%v ahead of question %d: address %d, and the tail is %d", q, k, addr, tail.N)
				}
			}
		}
	}
}

// P15.3: a unit that is down leaves: its appends see that at check, and go on without it.
func TestDownLeaves(t *testing.T) {
	h, a, other := begun(t, three(), 9), log.New(three(), "r"), log.New(three(), "other")
	n := h.Nodes()
	n.Unit(5).Crash()
	expectAsked(t, run(h, a, 5, allHeard), nextAsk(3), writeAsk(3, 4, 0, "r"), writeAsk(3, 5, 0, "r"), layoutAsk(), writeAsk(3, 5, 0, "r"))
	run(h, other, 9, allHeard)
	expectOver(t, other, 1, api.OK)
	reform(t, n, of(4, []int{4, 7}, []int{6}, []int{0, 1}))
	expectAsked(t, run(h, a, 99, allHeard), layoutAsk(), nextAsk(4), writeAsk(4, 0, 0, "r"), writeAsk(4, 1, 0, "r"))
	expectOver(t, a, 2, api.OK)
	expectThere(t, n, a, "r")
	expectThere(t, n, other, "other")
}

// P15.3: a reform that is half done: units that are sealed, a sequencer that is not started yet, or knows nothing
func TestHalfAReform(t *testing.T) {
	p, q := of(3, []int{4, 5}), of(4, []int{4, 5})
	h, a := begun(t, p, 9), log.New(p, "r")
	n := h.Nodes()
	run(h, a, 2, allHeard)
	n.Do(api.Ask{Kind: api.AskSeal, Unit: 5, Epoch: 4})
	expectAsked(t, run(h, a, 5, allHeard), writeAsk(3, 5, 0, "r"), layoutAsk(), nextAsk(3), writeAsk(3, 4, 1, "r"), writeAsk(3, 5, 1, "r"))
	n.Do(api.Ask{Kind: api.AskSeal, Unit: 4, Epoch: 4})
	expectAsked(t, run(h, a, 3, allHeard), layoutAsk(), nextAsk(3), writeAsk(3, 4, 2, "r"))
	n.Order().Crash()
	expectAsked(t, run(h, a, 4, allHeard), layoutAsk(), nextAsk(3), nextAsk(3), nextAsk(3))
	change(t, n, q)
	expectAsked(t, run(h, a, 2, allHeard), nextAsk(3), nextAsk(3))
	start(t, n, 4, 2)
	expectAsked(t, run(h, a, 99, allHeard), nextAsk(3), layoutAsk(), nextAsk(4), writeAsk(4, 4, 2, "r"), writeAsk(4, 5, 2, "r"))
	expectOver(t, a, 2, api.OK)
	expectThere(t, n, a, "r")

	a = log.New(p, "s")
	expectAsked(t, run(h, a, 3, func(i int) int { return i }), nextAsk(3), layoutAsk(), layoutAsk())
	n.Order().Crash()
	expectAsked(t, run(h, a, 4, allHeard), layoutAsk(), nextAsk(4), nextAsk(4), nextAsk(4))
	change(t, n, of(5, []int{4, 5}))
	start(t, n, 5, 7)
	expectAsked(t, run(h, a, 99, allHeard), nextAsk(4), layoutAsk(), nextAsk(5), writeAsk(5, 4, 7, "s"), writeAsk(5, 5, 7, "s"))
	expectThere(t, n, a, "s")

	change(t, n, of(6, []int{4, 5}))
	a = log.New(of(6, []int{4, 5}), "t")
	expectAsked(t, run(h, a, 5, allHeard), nextAsk(6), layoutAsk(), nextAsk(6), layoutAsk(), nextAsk(6))
	start(t, n, 6, 8)
	run(h, a, 99, allHeard)
	expectOver(t, a, 8, api.OK)
}

// P15.3: others were at the page ahead of it, with junk, with another record, with the same one, or trimmed it.
func TestOthersWereThere(t *testing.T) {
	p := of(0, []int{4, 5})
	first, second := writeAsk(0, 4, 0, "r"), writeAsk(0, 5, 0, "r")
	onward := []api.Ask{nextAsk(0), writeAsk(0, 4, 1, "r"), writeAsk(0, 5, 1, "r")}
	ask := func(kind, unit, page int, s string) api.Ask {
		return api.Ask{Kind: kind, Unit: unit, Page: page, Data: s}
	}
	for _, x := range []struct {
		others, want []api.Ask
		addr         int
	}{
		{[]api.Ask{ask(api.AskFill, 4, 0, "")}, append([]api.Ask{nextAsk(0), first, readAsk(0, 4, 0)}, onward...), 1},
		{[]api.Ask{ask(api.AskWrite, 4, 0, "s")}, append([]api.Ask{nextAsk(0), first, readAsk(0, 4, 0)}, onward...), 1},
		{[]api.Ask{ask(api.AskWrite, 4, 0, "")}, append([]api.Ask{nextAsk(0), first, readAsk(0, 4, 0)}, onward...), 1},
		{[]api.Ask{ask(api.AskTrim, 4, 1, "")}, append([]api.Ask{nextAsk(0), first}, onward...), 1},
		{[]api.Ask{ask(api.AskTrim, 5, 1, "")}, append([]api.Ask{nextAsk(0), first, second}, onward...), 1},
		{[]api.Ask{ask(api.AskFill, 5, 0, "")}, append([]api.Ask{nextAsk(0), first, second, readAsk(0, 5, 0)}, onward...), 1},
		{[]api.Ask{ask(api.AskWrite, 5, 0, "s")}, append([]api.Ask{nextAsk(0), first, second, readAsk(0, 5, 0)}, onward...), 1},
		{[]api.Ask{ask(api.AskWrite, 5, 0, "r")}, []api.Ask{nextAsk(0), first, second, readAsk(0, 5, 0)}, 0},
		{[]api.Ask{ask(api.AskWrite, 4, 0, "r")}, []api.Ask{nextAsk(0), first, readAsk(0, 4, 0), second}, 0},
		{[]api.Ask{ask(api.AskWrite, 4, 0, "r"), ask(api.AskWrite, 5, 0, "r")}, []api.Ask{nextAsk(0), first, readAsk(0, 4, 0), second, readAsk(0, 5, 0)}, 0},
		{[]api.Ask{ask(api.AskWrite, 4, 0, "s"), ask(api.AskFill, 4, 1, ""), ask(api.AskTrim, 4, 2, "")}, []api.Ask{nextAsk(0), first, nextAsk(0), writeAsk(0, 4, 1, "r"), nextAsk(0), writeAsk(0, 4, 2, "r"), writeAsk(0, 5, 2, "r")}, 2},
	} {
		h, a := begun(t, p, 9), log.New(p, "r")
		for _, q := range x.others {
			if got := h.Nodes().Do(q); got.Code != 0 {
				t.Fatalf("%s: %s", asked(q), told(got))
			}
		}
		expectAsked(t, run(h, a, 99, allHeard), x.want...)
		expectOver(t, a, x.addr, api.OK)
		expectThere(t, h.Nodes(), a, "r")
	}
}

// P15.3, P15.4: the end of the log, and pages that units have not
func TestEndOfTheLog(t *testing.T) {
	for _, p := range []api.Projection{of(0, []int{4, 5}, []int{6}, []int{0, 1}, []int{9, 8, 2}), of(0, []int{4, 5})} {
		for _, tail := range []int{0, maxPages - 1, maxPages, maxAddr - 1, maxAddr} {
			h := begun(t, p, 9)
			n := h.Nodes()
			change(t, n, of(1, p.Chains...))
			start(t, n, 1, tail)
			a := log.New(p, "r")
			run(h, a, 99, allHeard)
			switch page := tail / len(p.Chains); {
			case tail == maxAddr:
				expectOver(t, a, 0, api.ErrFull)
			case page >= maxPages:
				expectOver(t, a, 0, api.ErrArg)
			default:
				expectOver(t, a, tail, api.OK)
				expectThere(t, n, a, "r")
				continue
			}
			if l := pages(n, "r"); len(l) > 0 {
				t.Errorf("it is over with an error, and the record is on %v", l)
			}
		}
	}
}

// P15.3, P15.4: units without room: the first one, or a later one; with Writes that were done, deaf, held and lost
func TestNoRoom(t *testing.T) {
	for _, p := range []api.Projection{of(0, []int{4}), of(0, []int{4, 5}), of(0, []int{4, 5, 7}), of(0, []int{4}, []int{6, 7})} {
		for _, full := range p.Chains[0] {
			for _, fate := range fates {
				for k := 1; k < 4; k++ {
					h, a := begun(t, p, 1), log.New(p, "r")
					n := h.Nodes()
					n.Do(writeAsk(0, full, 9, "s"))
					some := api.Errno(api.ErrFull)
					if full != 4 || fate != api.Heard && k == 1 {
						some = api.ErrTime
					}
					run(h, a, 99, func(i int) int {
						if i == k {
							return fate
						}
						return api.Heard
					})
					expectOver(t, a, 0, some)
					for h.Do(0) {
					}
					if l := pages(n, "r"); some == api.ErrFull && len(l) > 0 {
						t.Errorf("a full log has the record on %v", l)
					}
				}
			}
		}
	}
}

// some is appends that go on between each other over one hand.
type some struct {
	t     *testing.T
	r     *rand.Rand
	h     *hand.Hand
	begun []int
	l     []*log.Append
	recs  []string
	taken map[int]string
	ends  map[api.Errno]int
}

// goOn lets one of them ask a question; calm ones are always heard.
func (s *some) goOn(k int, calm bool) {
	a := s.l[k]
	_, _, was := a.Over()
	run(s.h, a, 1, func(int) int {
		if calm || s.r.Intn(3) > 0 {
			return api.Heard
		}
		return fates[s.r.Intn(len(fates))]
	})
	if addr, err, over := a.Over(); over && !was {
		s.ends[err]++
		if err == api.OK {
			expectThere(s.t, s.h.Nodes(), a, s.recs[k])
			if other, twice := s.taken[addr]; twice {
				s.t.Errorf("%q and %q have address %d", other, s.recs[k], addr)
			}
			s.taken[addr] = s.recs[k]
		}
	}
}

// upset does a thing to the nodes, or to what is held.
func (s *some) upset() {
	n := s.h.Nodes()
	k := s.r.Intn(maxUnits)
	switch s.r.Intn(12) {
	case 0:
		n.Unit(k).Crash()
	case 1, 2:
		n.Unit(k).Start()
	case 3:
		n.Order().Crash()
	case 4:
		s.reform()
	case 5, 6, 7:
		s.h.Do(s.r.Intn(5))
	case 8:
		s.h.Drop(s.r.Intn(5))
	case 9:
		n.Do(api.Ask{Kind: api.AskFill, Unit: k, Epoch: n.Unit(k).Epoch(), Page: s.r.Intn(12)})
	}
}

// reform lets units leave that are down, and at times one come in. Of each chain one stays that stood there from the beginning: without that, what was appended would be gone.
func (s *some) reform() {
	n := s.h.Nodes()
	p := n.Layout().Now()
	q := of(p.Epoch + 1)
	used := n.Layout().Used()
	for _, chain := range p.Chains {
		stay := slices.DeleteFunc(slices.Clone(chain), func(k int) bool { return n.Unit(k).Down() })
		if !slices.ContainsFunc(stay, func(k int) bool { return slices.Contains(s.begun, k) }) {
			n.Unit(chain[0]).Start()
			stay = slices.Insert(stay, 0, chain[0])
		}
		if k := s.r.Intn(maxUnits); len(stay) < 3 && !slices.Contains(used, k) {
			stay, used = append(stay, k), append(used, k)
		}
		q.Chains = append(q.Chains, stay)
	}
	reform(s.t, n, q)
}

// calm is the end of all that upsets: everything is up, there is a sequencer, and all go on till they are over.
func (s *some) calm() {
	for k := range maxUnits {
		s.h.Nodes().Unit(k).Start()
	}
	s.reform()
	for range 400 {
		for k := range s.l {
			s.goOn(k, true)
		}
	}
	for s.h.Do(0) {
	}
}

// P15.4: appends between each other, with any fates, units that crash and leave, sequencers that crash, and little room: each is over at last; with an address it is on all units of its chain, nobody else has that address, and with ErrFull it is nowhere.
func TestBetweenEachOther(t *testing.T) {
	r := rand.New(rand.NewSource(15))
	ends := map[api.Errno]int{}
	for turn := range 2000 {
		p := of(turn%3, []int{0, 7, 3}, []int{15, 4}, []int{9})
		s := &some{t: t, r: r, h: begun(t, p, []int{2, 4, maxPages}[turn%3]), begun: proj.Units(p), taken: map[int]string{}, ends: ends}
		for k := range 1 + r.Intn(12) {
			s.recs = append(s.recs, fmt.Sprint("record ", k))
			s.l = append(s.l, log.New(p, s.recs[k]))
		}
		for range 40 * len(s.l) {
			s.goOn(r.Intn(len(s.l)), false)
			if turn%2 == 0 && r.Intn(4) == 0 {
				s.upset()
			}
		}
		s.calm()
		for k, a := range s.l {
			_, err, over := a.Over()
			there := pages(s.h.Nodes(), s.recs[k])
			if !over || err == api.ErrFull && len(there) > 0 || err == api.OK && len(there) == 0 {
				t.Errorf("%q stands on %v: %s", s.recs[k], there, show(a))
			}
		}
	}
	for _, err := range []api.Errno{api.OK, api.ErrFull, api.ErrTime} {
		if ends[err] < 50 {
			t.Errorf("%d were over with %v", ends[err], err)
		}
	}
	if len(ends) != 3 {
		t.Errorf("they were over with %v", ends)
	}
}
