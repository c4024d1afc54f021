package fetch_test

import (
	"fmt"
	"slices"
	"testing"

	"escheat/api"
	log "escheat/append"
	"escheat/fetch"
	"escheat/hand"
	"escheat/place"
	"escheat/proj"
	"escheat/rpc"
)

// begun is a hand over the nodes of a projection that is good, and of a room that is one.
func begun(t testing.TB, p api.Projection, room int) *hand.Hand {
	t.Helper()
	n, err := rpc.New(p, room)
	if err != api.OK {
		t.Fatalf("New(%v, %d): %v", p, room, err)
	}
	return hand.New(n)
}

// asker is a fetch, or an append.
type asker interface {
	Ask() (api.Ask, bool)
	Hear(x api.Answer, heard bool)
}

// run lets one go on, of each question the fate that fate tells, till it is over or so many were asked; it tells those.
func run(h *hand.Hand, a asker, most int, fate func(k int) int) []api.Ask {
	var l []api.Ask
	for q, asks := a.Ask(); asks && len(l) < most; q, asks = a.Ask() {
		l = append(l, q)
		a.Hear(h.Ask(q, fate(len(l)-1)))
	}
	return l
}

func allHeard(int) int { return api.Heard }

// read is a fetch over a hand, from New to its end, and what it asked.
func read(h *hand.Hand, p api.Projection, addr int, fill bool) (*fetch.Fetch, []api.Ask) {
	f := fetch.New(p, addr, fill)
	l := run(h, f, 99, allHeard)
	return f, l
}

// expectRead holds that a fetch asks just this of all nodes that are there, and what it tells.
func expectRead(t testing.TB, h *hand.Hand, p api.Projection, addr int, fill bool, want end, asks ...api.Ask) {
	t.Helper()
	f, l := read(h, p, addr, fill)
	expectAsked(t, l, asks...)
	expectOver(t, f, want)
	expectP(t, f, p)
}

// expectAsked holds that these questions were asked, one behind the other.
func expectAsked(t testing.TB, got []api.Ask, want ...api.Ask) {
	t.Helper()
	if !slices.EqualFunc(got, want, func(a, b api.Ask) bool { return asked(a) == asked(b) }) {
		t.Errorf("it asked %v, not %v", got, want)
	}
}

// must is a question that the nodes answer with OK.
func must(t testing.TB, n *rpc.Nodes, q api.Ask) api.Answer {
	t.Helper()
	x := n.Do(q)
	if x.Code != 0 {
		t.Fatalf("%s: %s", asked(q), told(x))
	}
	return x
}

// put lets a unit have this on a page, of its own epoch.
func put(t testing.TB, n *rpc.Nodes, what end, unit, page int) {
	t.Helper()
	epoch := n.Unit(unit).Epoch()
	switch what.kind {
	case api.Written, api.Junk:
		must(t, n, mendAsk(what, epoch, unit, page))
	case api.Trimmed:
		must(t, n, api.Ask{Kind: api.AskTrim, Unit: unit, Epoch: epoch, Page: page + 1})
	}
}

// stands is what a unit has on a page.
func stands(n *rpc.Nodes, unit, page int) end {
	text, _ := n.Unit(unit).Pages().Read(page)
	return end{kind: n.Unit(unit).Pages().Kind(page), text: text}
}

// expectStands holds that all units of an address's chain have this.
func expectStands(t testing.TB, n *rpc.Nodes, p api.Projection, addr int, want end) {
	t.Helper()
	for _, k := range p.Chains[addr%len(p.Chains)] {
		if got := stands(n, k, addr/len(p.Chains)); got != want {
			t.Errorf("at address %d of %v unit %d has %d, %.20q, not %d, %.20q", addr, p, k, got.kind, got.text, want.kind, want.text)
		}
	}
}

// expectUsed holds that so many pages are taken on all units together.
func expectUsed(t testing.TB, n *rpc.Nodes, want int) {
	t.Helper()
	got := 0
	for k := range maxUnits {
		got += n.Unit(k).Pages().Used()
	}
	if got != want {
		t.Errorf("%d pages are taken, not %d", got, want)
	}
}

// reform lets q count behind the projection that does: it seals the units that are up, and starts the sequencer.
func reform(t testing.TB, n *rpc.Nodes, q api.Projection) {
	t.Helper()
	p, tails := n.Layout().Now(), map[int]int{}
	for _, k := range proj.Units(p) {
		if x := n.Do(api.Ask{Kind: api.AskSeal, Unit: k, Epoch: q.Epoch}); x.Code == 0 {
			tails[k] = x.N
		} else if slices.Contains(proj.Units(q), k) {
			t.Fatalf("unit %d is not sealed: %s", k, told(x))
		}
	}
	must(t, n, api.Ask{Kind: api.AskChange, P: q})
	must(t, n, api.Ask{Kind: api.AskStart, Epoch: q.Epoch, Page: place.Tail(p, tails)})
}

// P16.2: the chapter's example over nodes, and again behind it
func TestExampleOverNodes(t *testing.T) {
	p := of(0, []int{0, 1})
	h := begun(t, p, 9)
	expectRead(t, h, p, 0, true, isJunk, readAsk(0, 1, 0), readAsk(0, 0, 0), fillAsk(0, 0, 0), fillAsk(0, 1, 0))
	expectRead(t, h, p, 0, true, isJunk, readAsk(0, 1, 0))
	expectUsed(t, h.Nodes(), 2)
}

// P16.2: addresses where nothing is: without fill nothing is there then either, with fill junk is, on all units of the chain and nowhere else.
func TestNothingThere(t *testing.T) {
	for _, p := range append(goods(), three()) {
		h, used := begun(t, p, maxPages), 0
		for _, addr := range []int{0, 1, 2, 3, 4, 5, 7, 11, 100, maxPages - 1} {
			chain, page := p.Chains[addr%len(p.Chains)], addr/len(p.Chains)
			ahead := []api.Ask{readAsk(p.Epoch, chain[len(chain)-1], page)}
			if len(chain) > 1 {
				ahead = append(ahead, readAsk(p.Epoch, chain[0], page))
			}
			expectRead(t, h, p, addr, false, empty, ahead...)
			expectUsed(t, h.Nodes(), used)
			asks := slices.Clone(ahead)
			for _, k := range chain {
				asks = append(asks, fillAsk(p.Epoch, k, page))
			}
			expectRead(t, h, p, addr, true, isJunk, asks...)
			expectStands(t, h.Nodes(), p, addr, isJunk)
			used += len(chain)
			expectUsed(t, h.Nodes(), used)
			for _, fill := range fills {
				expectRead(t, h, p, addr, fill, isJunk, ahead[0])
			}
		}
	}
}

// P16.2: texts that were appended: the last unit is read, and no other one; nothing is changed.
func TestTextThere(t *testing.T) {
	for _, p := range append(goods(), three()) {
		h, used := begun(t, p, maxPages), 0
		recs := []string{"r", "", longest, "s", "\x00", "r", longest[1:], "t"}
		for i, rec := range recs {
			run(h, log.New(p, rec), 99, allHeard)
			used += len(p.Chains[i%len(p.Chains)])
		}
		for range 2 {
			for i, rec := range recs {
				chain := p.Chains[i%len(p.Chains)]
				for _, fill := range fills {
					expectRead(t, h, p, i, fill, has(rec), readAsk(p.Epoch, chain[len(chain)-1], i/len(p.Chains)))
				}
			}
		}
		expectUsed(t, h.Nodes(), used)
		expectRead(t, h, p, len(recs)-1, true, has("t"), readAsk(p.Epoch, lastOf(p, len(recs)-1), (len(recs)-1)/len(p.Chains)))
	}
}

// lastOf is the last unit of an address's chain.
func lastOf(p api.Projection, addr int) int {
	chain := p.Chains[addr%len(p.Chains)]
	return chain[len(chain)-1]
}

// finds are what may be found.
var finds = []end{has("r"), has(""), has(longest), isJunk}

// P16.2: a write, or a fill, was left half done, at each unit of the chain: it is mended, with fill and without, and found as whole behind that.
func TestHalfDone(t *testing.T) {
	for _, p := range append(goods(), three()) {
		for addr := range 2 * len(p.Chains) {
			chain, page := p.Chains[addr%len(p.Chains)], addr/len(p.Chains)
			for done := 1; done <= len(chain); done++ {
				for _, what := range finds {
					for _, fill := range fills {
						h := begun(t, p, 9)
						asks := []api.Ask{readAsk(p.Epoch, chain[len(chain)-1], page), readAsk(p.Epoch, chain[0], page)}
						for i, k := range chain {
							if i < done {
								put(t, h.Nodes(), what, k, page)
							}
							if i > 0 {
								asks = append(asks, mendAsk(what, p.Epoch, k, page))
							}
						}
						if done == len(chain) {
							asks = asks[:1]
						}
						expectRead(t, h, p, addr, fill, what, asks...)
						expectStands(t, h.Nodes(), p, addr, what)
						expectUsed(t, h.Nodes(), len(chain))
						expectRead(t, h, p, addr, !fill, what, asks[0])
					}
				}
			}
		}
	}
}

// P16.2: what was trimmed, on any of the units of a chain, where the others have a text, or nothing
func TestTrimmedThere(t *testing.T) {
	for _, p := range []api.Projection{of(0, []int{3}), of(0, []int{3, 2}), of(0, []int{3, 2, 1}), of(0, []int{3, 2, 1, 0}), of(0, []int{9}, []int{3, 2, 1, 0})} {
		addr := len(p.Chains)*3 - 1
		chain := p.Chains[addr%len(p.Chains)]
		for set := 1; set < 1<<len(chain); set++ {
			for _, other := range []end{has("r"), empty} {
				for _, fill := range fills {
					h := begun(t, p, 9)
					trimmed := func(i int) bool { return set>>i&1 == 1 }
					for i, k := range chain {
						put(t, h.Nodes(), other, k, 2)
						if trimmed(i) {
							put(t, h.Nodes(), gone, k, 2)
						}
					}
					f, l := read(h, p, addr, fill)
					switch {
					case trimmed(len(chain) - 1):
						expectOver(t, f, gone)
						expectAsked(t, l, readAsk(0, chain[len(chain)-1], 2))
					case other == has("r"):
						expectOver(t, f, other)
					case trimmed(0), fill:
						expectOver(t, f, gone)
					default:
						expectOver(t, f, empty)
					}
				}
			}
		}
	}
}

// fates are all fates that differ in what becomes of a question, and some that do not.
var fates = []int{api.Heard, api.Lost, api.Deaf, api.Held, 4, -1}

// P16.2, P16.3: two questions that have any fate, anywhere on the way: what was not heard is asked again, and all comes to the same.
func TestFates(t *testing.T) {
	for _, p := range []api.Projection{of(0, []int{3}), of(0, []int{4, 5}), of(0, []int{2, 0, 1}), three()} {
		for k := range 9 {
			for j := range k + 1 {
				for _, one := range fates {
					for _, other := range fates {
						for _, what := range []end{empty, has("r"), isJunk} {
							h := begun(t, p, 9)
							put(t, h.Nodes(), what, p.Chains[0][0], 1)
							expectFates(t, h, p, what, func(i int) int {
								switch i {
								case k:
									return one
								case j:
									return other
								}
								return api.Heard
							})
						}
					}
				}
			}
		}
	}
}

// expectFates holds that a fetch with fill of the second page of the first chain, where the first unit has this, asks each question till it is heard, and what is there then, and stays.
func expectFates(t *testing.T, h *hand.Hand, p api.Projection, what end, fate func(int) int) {
	t.Helper()
	chain, addr := p.Chains[0], len(p.Chains)
	asks := []api.Ask{readAsk(p.Epoch, chain[len(chain)-1], 1), readAsk(p.Epoch, chain[0], 1)}
	if len(chain) == 1 {
		asks = asks[:1]
	}
	want := what
	if what == empty {
		want, asks = isJunk, append(asks, fillAsk(p.Epoch, chain[0], 1))
	}
	for _, k := range chain[1:] {
		asks = append(asks, mendAsk(want, p.Epoch, k, 1))
	}
	f := fetch.New(p, addr, true)
	got := run(h, f, 99, fate)
	var all []api.Ask
	for _, q := range asks {
		all = append(all, q)
		for fate(len(all)-1) != api.Heard {
			all = append(all, q)
		}
	}
	expectAsked(t, got, all...)
	expectOver(t, f, want)
	expectStands(t, h.Nodes(), p, addr, want)
	for h.Do(0) {
	}
	expectStands(t, h.Nodes(), p, addr, want)
	expectRead(t, h, p, addr, true, want, asks[0])
}

// P16.2: a unit that is down, at each question: it is asked again, behind the layout each time, till it is up; where it was is kept, and what was found.
func TestDown(t *testing.T) {
	p := three()
	for _, addr := range []int{9, 7, 11} {
		for _, what := range append(finds, empty) {
			for k := range 5 {
				h, f := begun(t, p, 9), fetch.New(p, addr, true)
				n := h.Nodes()
				put(t, n, what, p.Chains[addr%3][0], addr/3)
				run(h, f, k, allHeard)
				was, ask := f.Ask()
				if !ask {
					continue
				}
				n.Unit(was.Unit).Crash()
				expectAsked(t, run(h, f, 6, allHeard), was, layoutAsk(), was, layoutAsk(), was, layoutAsk())
				expectAsked(t, run(h, f, 3, func(int) int { return api.Lost }), was, was, was)
				run(h, f, 1, allHeard)
				expectAsked(t, run(h, f, 2, func(int) int { return api.Deaf }), layoutAsk(), layoutAsk())
				n.Unit(was.Unit).Start()
				expectAsked(t, run(h, f, 2, allHeard), layoutAsk(), was)
				run(h, f, 99, allHeard)
				want := what
				if what == empty {
					want = isJunk
				}
				expectOver(t, f, want)
				expectStands(t, n, p, addr, want)
				expectP(t, f, p)
			}
		}
	}
}

// laters are projections that may come next behind three: a unit leaves, one comes in, or the Epoch alone is another one.
func laters() []api.Projection {
	return []api.Projection{
		next(), of(4, three().Chains...), of(4, []int{5, 7}, []int{6}, []int{0, 1}), of(4, []int{4, 7}, []int{6}, []int{0, 1}), of(4, []int{4, 5}, []int{6}, []int{1}), of(4, []int{7}, []int{6}, []int{0, 1}), of(4, []int{4, 5, 7, 9}, []int{6, 10}, []int{0, 1, 11}),
	}
}

// P16.2, P16.3: a new layout ahead of any question of a fetch, with nothing there, or with a write or a fill that was left half done at each unit of the chain: what it tells is what the first unit of the new chain had, or what it told ahead of that.
func TestNewLayoutMeanwhile(t *testing.T) {
	for _, q := range laters() {
		for k := range 6 {
			for _, gone := range []int{2, 4, 5, 7} {
				if slices.Contains(proj.Units(q), gone) {
					continue
				}
				for done := range 4 {
					for _, what := range []end{has("r"), isJunk} {
						for _, fill := range fills {
							h := begun(t, three(), 9)
							for _, unit := range three().Chains[0][:done] {
								put(t, h.Nodes(), what, unit, 3)
							}
							expectMeanwhile(t, h, q, k, gone, fill)
						}
					}
				}
			}
		}
	}
}

// expectMeanwhile holds what a fetch of address 9 of three comes to, if q counts ahead of its question k; the unit gone is down then.
func expectMeanwhile(t *testing.T, h *hand.Hand, q api.Projection, k, gone int, fill bool) {
	t.Helper()
	n, f := h.Nodes(), fetch.New(three(), 9, fill)
	run(h, f, k, allHeard)
	_, asks := f.Ask()
	n.Unit(gone).Crash()
	reform(t, n, q)
	n.Unit(gone).Start()
	want := stands(n, q.Chains[0][0], 3)
	if fill && want == empty {
		want = isJunk
	}
	if !asks {
		want = endOf(t, f)
		expectP(t, f, three())
	} else {
		run(h, f, 99, allHeard)
		expectOver(t, f, want)
	}
	if asks && gone == 2 {
		expectP(t, f, q)
	}
	if want == empty {
		want = isJunk
	}
	for _, p := range []api.Projection{q, three()} {
		again, _ := read(h, p, 9, true)
		expectOver(t, again, want)
	}
	expectStands(t, n, q, 9, want)
}

// P16.2: units that are sealed, and a layout that does not know it yet: it asks layout and last, in turn, till the change is done; what was found is found anew.
func TestHalfAReform(t *testing.T) {
	p, q := of(3, []int{4, 5, 7}), of(4, []int{5, 7, 8})
	h, f := begun(t, p, 9), fetch.New(p, 0, true)
	n := h.Nodes()
	put(t, n, has("r"), 4, 0)
	seal := func(unit int) { must(t, n, api.Ask{Kind: api.AskSeal, Unit: unit, Epoch: 4}) }
	seal(5)
	expectAsked(t, run(h, f, 6, allHeard), readAsk(3, 7, 0), readAsk(3, 4, 0), writeAsk(3, 5, 0, "r"), layoutAsk(), readAsk(3, 7, 0), readAsk(3, 4, 0))
	seal(4)
	expectAsked(t, run(h, f, 4, allHeard), writeAsk(3, 5, 0, "r"), layoutAsk(), readAsk(3, 7, 0), readAsk(3, 4, 0))
	expectAsked(t, run(h, f, 4, allHeard), layoutAsk(), readAsk(3, 7, 0), readAsk(3, 4, 0), layoutAsk())
	seal(7)
	expectAsked(t, run(h, f, 5, allHeard), readAsk(3, 7, 0), layoutAsk(), readAsk(3, 7, 0), layoutAsk(), readAsk(3, 7, 0))
	must(t, n, api.Ask{Kind: api.AskChange, P: q})
	expectAsked(t, run(h, f, 99, allHeard), layoutAsk(), readAsk(4, 8, 0), readAsk(4, 5, 0), fillAsk(4, 5, 0), fillAsk(4, 7, 0), fillAsk(4, 8, 0))
	expectOver(t, f, isJunk)
	expectP(t, f, q)
	expectStands(t, n, q, 0, isJunk)
}

// P16.2: a unit that is down leaves: its fetches see that at check, and go on without it.
func TestDownLeaves(t *testing.T) {
	h, f := begun(t, three(), 9), fetch.New(three(), 9, false)
	n := h.Nodes()
	put(t, n, has("r"), 4, 3)
	n.Unit(5).Crash()
	expectAsked(t, run(h, f, 5, allHeard), readAsk(3, 7, 3), readAsk(3, 4, 3), writeAsk(3, 5, 3, "r"), layoutAsk(), writeAsk(3, 5, 3, "r"))
	q := of(4, []int{4, 7}, []int{6}, []int{0, 1})
	reform(t, n, q)
	expectAsked(t, run(h, f, 99, allHeard), layoutAsk(), readAsk(4, 7, 3), readAsk(4, 4, 3), writeAsk(4, 7, 3, "r"))
	expectOver(t, f, has("r"))
	expectP(t, f, q)
	expectStands(t, n, q, 9, has("r"))
}

// P16.2: a unit that came in has elder addresses just where somebody reads them.
func TestCameIn(t *testing.T) {
	p, q := of(0, []int{4, 5}), of(1, []int{4, 5, 9})
	h := begun(t, p, 9)
	n := h.Nodes()
	for _, rec := range []string{"a", "b"} {
		run(h, log.New(p, rec), 99, allHeard)
	}
	reform(t, n, q)
	expectRead(t, h, q, 1, false, has("b"), readAsk(1, 9, 1), readAsk(1, 4, 1), writeAsk(1, 5, 1, "b"), writeAsk(1, 9, 1, "b"))
	if got := stands(n, 9, 0); got != empty {
		t.Errorf("unit 9 has %v", got)
	}
	expectRead(t, h, q, 1, false, has("b"), readAsk(1, 9, 1))
	f := fetch.New(p, 0, true)
	expectAsked(t, run(h, f, 99, allHeard), readAsk(0, 5, 0), layoutAsk(), readAsk(1, 9, 0), readAsk(1, 4, 0), writeAsk(1, 5, 0, "a"), writeAsk(1, 9, 0, "a"))
	expectOver(t, f, has("a"))
	expectStands(t, n, q, 0, has("a"))
}

// P16.2: pages that units have not are over with what those answer.
func TestEndOfTheLog(t *testing.T) {
	for _, p := range []api.Projection{of(0, []int{4, 5}, []int{6}, []int{0, 1}, []int{9, 8, 2}), of(0, []int{4, 5}), of(0, []int{4}, []int{5})} {
		for _, addr := range []int{maxPages - 1, maxPages, 2*maxPages - 1, 2 * maxPages, maxAddr - 1} {
			for _, fill := range fills {
				f, _ := read(begun(t, p, 9), p, addr, fill)
				switch {
				case addr/len(p.Chains) >= maxPages:
					expectOver(t, f, failed(api.ErrArg))
				case fill:
					expectOver(t, f, isJunk)
				default:
					expectOver(t, f, empty)
				}
			}
		}
	}
}

// P16.2: units without room: the first one, or a later one, with nothing there or what was left half done; behind a trim there is room, and it goes on where others left off.
func TestNoRoom(t *testing.T) {
	for _, p := range []api.Projection{of(0, []int{4}), of(0, []int{4, 5}), of(0, []int{4, 5, 7}), of(0, []int{4}, []int{6, 7})} {
		for i, full := range p.Chains[0] {
			for _, what := range append(finds, empty) {
				if i == 0 && what != empty {
					continue
				}
				h := begun(t, p, 1)
				n, addr := h.Nodes(), 9*len(p.Chains)
				put(t, n, what, 4, 9)
				put(t, n, has("s"), full, 3)
				want := what
				if what == empty {
					expectRead(t, h, p, addr, false, empty, firstReads(p, addr)...)
					want = isJunk
				}
				f, _ := read(h, p, addr, true)
				expectOver(t, f, failed(api.ErrFull))
				for j, k := range p.Chains[0] {
					if got := stands(n, k, 9); j < i && got != want || j >= i && got != empty {
						t.Errorf("unit %d, and %d is full, has %v", k, full, got)
					}
				}
				put(t, n, gone, full, 3)
				f, _ = read(h, p, addr, true)
				expectOver(t, f, want)
				expectStands(t, n, p, addr, want)
			}
		}
	}
}

// firstReads are what is asked of an address where nothing is, without fill.
func firstReads(p api.Projection, addr int) []api.Ask {
	chain := p.Chains[addr%len(p.Chains)]
	l := []api.Ask{readAsk(p.Epoch, lastOf(p, addr), addr/len(p.Chains)), readAsk(p.Epoch, chain[0], addr/len(p.Chains))}
	return l[:min(len(l), len(chain))]
}

// P16.2: what becomes of a fetch in an elder epoch, whose units left while they were down, so that nobody sealed them: with fill it comes to one that stayed, and to the layout; without, it tells what those have.
func TestElderEpoch(t *testing.T) {
	p, q := of(0, []int{4, 5, 7}), of(1, []int{5})
	for _, what := range finds {
		h := begun(t, p, 9)
		n := h.Nodes()
		elder, filler := fetch.New(p, 0, false), fetch.New(p, 0, true)
		for _, k := range []int{4, 7} {
			n.Unit(k).Crash()
		}
		reform(t, n, q)
		put(t, n, what, 5, 0)
		expectRead(t, h, q, 0, true, what, readAsk(1, 5, 0))
		for _, k := range []int{4, 7} {
			n.Unit(k).Start()
		}
		run(h, elder, 99, allHeard)
		expectOver(t, elder, empty)
		expectP(t, elder, p)
		expectAsked(t, run(h, filler, 99, allHeard), readAsk(0, 7, 0), readAsk(0, 4, 0), fillAsk(0, 4, 0), fillAsk(0, 5, 0), layoutAsk(), readAsk(1, 5, 0))
		expectOver(t, filler, what)
		expectRead(t, h, q, 0, true, what, readAsk(1, 5, 0))
	}
}

// P16.2, P16.3: fetches one behind the other, of all addresses of a log with holes, from the beginning and from the end, with fill and without
func TestOneBehindTheOther(t *testing.T) {
	for _, p := range append(goods(), three()) {
		h := begun(t, p, 99)
		n, want := h.Nodes(), map[int]end{}
		for i := range 24 {
			a, rec := log.New(p, fmt.Sprint("record ", i)), fmt.Sprint("record ", i)
			run(h, a, []int{99, 99, 2, 1, 3}[i%5], allHeard)
			want[i] = stands(n, p.Chains[i%len(p.Chains)][0], i/len(p.Chains))
			if i%5 != 3 && want[i] != has(rec) {
				t.Errorf("address %d has %v", i, want[i])
			}
		}
		for addr := range 24 {
			f, _ := read(h, p, 23-addr, false)
			expectOver(t, f, want[23-addr])
		}
		for addr := range 24 {
			f, _ := read(h, p, addr, true)
			if want[addr] == empty {
				want[addr] = isJunk
			}
			expectOver(t, f, want[addr])
			expectStands(t, n, p, addr, want[addr])
		}
		for addr := range 24 {
			expectRead(t, h, p, addr, addr%2 == 0, want[addr], readAsk(p.Epoch, lastOf(p, addr), addr/len(p.Chains)))
		}
	}
}
