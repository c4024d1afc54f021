package reform_test

import (
	"fmt"
	"slices"
	"strings"
	"testing"

	"escheat/api"
	log "escheat/append"
	"escheat/fetch"
	"escheat/hand"
	"escheat/reform"
	"escheat/rpc"
	"escheat/tail"
)

// begun is a hand over the nodes of a projection that is good, and of a room that is one.
func begun(t testing.TB, p api.Projection, room int) *hand.Hand {
	t.Helper()
	n, err := rpc.New(p, room)
	if err != api.OK {
		t.Fatalf("New(%v, %d): %v", p, room, err)
	}
	return hand.New(n)
}

// asker is a reform, an append, a fetch, or a tail.
type asker interface {
	Ask() (api.Ask, bool)
	Hear(x api.Answer, heard bool)
}

// run lets one go on, of each question the fate that fate tells, till it is over or so many were asked; it tells those.
func run(h *hand.Hand, a asker, most int, fate func(k int) int) []api.Ask {
	var l []api.Ask
	for q, asks := a.Ask(); asks && len(l) < most; q, asks = a.Ask() {
		l = append(l, q)
		a.Hear(h.Ask(q, fate(len(l)-1)))
	}
	return l
}

func allHeard(int) int { return api.Heard }

// fates are all fates that differ in what becomes of a question, and some that do not.
var fates = []int{api.Heard, api.Lost, api.Deaf, api.Held, 4, -1}

// fateOf is that fate of the k-th question, and Heard of all others.
func fateOf(k, fate int) func(int) int {
	return func(i int) int {
		if i == k {
			return fate
		}
		return api.Heard
	}
}

// changed lets q count by a reform that is not hindered; units that are down and leave are skipped.
func changed(t testing.TB, h *hand.Hand, q api.Projection) {
	t.Helper()
	a := reform.New(q)
	for asks := true; asks; _, asks = a.Ask() {
		if len(run(h, a, 30, allHeard)) == 30 && !a.Skip() {
			t.Fatalf("it does not end: %s", show(a))
		}
	}
	expectOver(t, a, api.OK)
	expectCounts(t, h, q)
}

// expectCounts holds that q counts, and that the sequencer knows the tail in its epoch.
func expectCounts(t testing.TB, h *hand.Hand, q api.Projection) {
	t.Helper()
	n := h.Nodes()
	if !alike(n.Layout().Now(), q) || n.Order().Epoch() != q.Epoch || !n.Order().Knows() {
		t.Errorf("%v does not count, but %v; the sequencer is in %d and knows %v", q, n.Layout().Now(), n.Order().Epoch(), n.Order().Knows())
	}
}

// expectAsked holds that these questions were asked, one behind the other.
func expectAsked(t testing.TB, got []api.Ask, want ...api.Ask) {
	t.Helper()
	if !slices.EqualFunc(got, want, sameAsk) {
		t.Errorf("it asked %v, not %v", got, want)
	}
}

// asksOf are the questions of a change that is not hindered.
func asksOf(x pair, tail int) []api.Ask {
	l := []api.Ask{layoutAsk()}
	for _, k := range unitsOf(x.p) {
		l = append(l, sealAsk(x.q.Epoch, k))
	}
	return append(l, changeAsk(x.q), startAsk(x.q.Epoch, tail))
}

// appended appends a record, and tells its address.
func appended(t testing.TB, h *hand.Hand, p api.Projection, rec string) int {
	t.Helper()
	a := log.New(p, rec)
	run(h, a, 99, allHeard)
	addr, err, over := a.Over()
	if !over || err != api.OK {
		t.Fatalf("it is not appended: %d, %v, %v", addr, err, over)
	}
	return addr
}

// records appends so many, one behind the other, of which the first one gets the address that is told.
func records(t testing.TB, h *hand.Hand, p api.Projection, first, many int) {
	t.Helper()
	for k := first; k < first+many; k++ {
		if addr := appended(t, h, p, fmt.Sprint("record ", k)); addr != k {
			t.Errorf("record %d is at %d", k, addr)
		}
	}
}

// read is what a fetch tells of an address.
func read(t testing.TB, h *hand.Hand, p api.Projection, addr int, fill bool) (int, string) {
	t.Helper()
	a := fetch.New(p, addr, fill)
	run(h, a, 99, allHeard)
	kind, s, err, over := a.Over()
	if !over || err != api.OK {
		t.Fatalf("address %d is not read: %d, %v, %v", addr, kind, err, over)
	}
	return kind, s
}

// expectRecords holds that so many records are read, each where it was appended, and that the tail is behind the last one.
func expectRecords(t testing.TB, h *hand.Hand, p api.Projection, many int) {
	t.Helper()
	for k := range many {
		if kind, s := read(t, h, p, k, k%2 == 0); kind != api.Written || s != fmt.Sprint("record ", k) {
			t.Errorf("address %d of %v has %d, %q", k, p, kind, s)
		}
	}
	if got := tailNow(t, h, p); got != many {
		t.Errorf("the tail of %v is %d, not %d", p, got, many)
	}
}

func tailNow(t testing.TB, h *hand.Hand, p api.Projection) int {
	t.Helper()
	a := tail.New(p)
	run(h, a, 99, allHeard)
	addr, err, over := a.Over()
	if !over || err != api.OK {
		t.Fatalf("there is no tail: %d, %v, %v", addr, err, over)
	}
	return addr
}

// all is all that the nodes have.
func all(n *rpc.Nodes) string {
	var l []string
	for k := range maxUnits {
		u := n.Unit(k)
		l = append(l, fmt.Sprint("unit ", k, u.Epoch(), u.Down(), u.Pages().Edge(), u.Pages().Used(), u.Pages().Tail()))
		for at := range u.Pages().Tail() {
			s, err := u.Pages().Read(at)
			l = append(l, fmt.Sprint(s, err))
		}
	}
	order := n.Do(api.Ask{Kind: api.AskTail, Epoch: n.Order().Epoch()})
	return strings.Join(append(l, fmt.Sprint(n.Order().Epoch(), n.Order().Knows(), order, n.Layout().Now(), n.Layout().Used(), n.Do(layoutAsk()))), "; ")
}

// expectNoChange holds that a thing changes no node.
func expectNoChange(t testing.TB, h *hand.Hand, do func()) {
	t.Helper()
	before := all(h.Nodes())
	do()
	if now := all(h.Nodes()); now != before {
		t.Errorf("the nodes had %s, and then %s", before, now)
	}
}

// P18.1, P18.2: changes of a new log, from New to their end
func TestNewLog(t *testing.T) {
	for _, x := range pairs() {
		h, a := begun(t, x.p, 9), reform.New(x.q)
		expectAsked(t, run(h, a, 99, allHeard), asksOf(x, 0)...)
		expectOver(t, a, api.OK)
		expectCounts(t, h, x.q)
		for k := range maxUnits {
			want := 0
			if slices.Contains(unitsOf(x.p), k) {
				want = x.q.Epoch
			}
			if u := h.Nodes().Unit(k); u.Epoch() != want || u.Pages().Tail() != 0 {
				t.Errorf("unit %d is in epoch %d, and has %d pages", k, u.Epoch(), u.Pages().Tail())
			}
		}
		expectRecords(t, h, x.q, 0)
		records(t, h, x.q, 0, 5)
		expectRecords(t, h, x.q, 5)
	}
}

// P18.2, P18.4: changes of a log that was appended to: all is read behind it as it was, and it is appended to behind that.
func TestAppendedTo(t *testing.T) {
	for _, x := range pairs() {
		for _, many := range []int{1, 2, 3, 7, 24} {
			h, a := begun(t, x.p, maxPages), reform.New(x.q)
			records(t, h, x.p, 0, many)
			expectAsked(t, run(h, a, 99, allHeard), asksOf(x, many)...)
			expectOver(t, a, api.OK)
			expectCounts(t, h, x.q)
			expectRecords(t, h, x.q, many)
			// Who knows the elder projection alone comes to the one that counts.
			records(t, h, x.p, many, 3)
			expectRecords(t, h, x.p, many+3)
		}
	}
}

// chainOf are changes one behind the other, of which each may come next: units leave, come in, and come to stand ahead.
func chainOf() []api.Projection {
	return []api.Projection{
		three(), next(), of(5, []int{7, 8, 10}, []int{6, 9}, []int{1, 11}), of(6, []int{7, 8, 10}, []int{6, 9}, []int{1, 11}), of(7, []int{7, 10}, []int{6}, []int{1, 11, 12, 13}), of(8, []int{7}, []int{6}, []int{1}), of(9, []int{7, 2}, []int{6, 3, 14}, []int{1, 15}),
	}
}

// P18.2, P18.4: several changes one behind the other, with records between: all is read behind each as it was.
func TestOneBehindTheOther(t *testing.T) {
	for _, each := range []int{0, 1, 2, 5} {
		l, many := chainOf(), each
		h := begun(t, l[0], maxPages)
		records(t, h, l[0], 0, each)
		for i, q := range l[1:] {
			a := reform.New(q)
			expectAsked(t, run(h, a, 99, allHeard), asksOf(pair{l[i], q}, many)...)
			expectOver(t, a, api.OK)
			expectCounts(t, h, q)
			expectRecords(t, h, q, many)
			records(t, h, q, many, each)
			many += each
			expectRecords(t, h, q, many)
		}
		for _, p := range l {
			expectRecords(t, h, p, many)
		}
	}
}

// P18.2: a question that has any fate, each of a change: it is asked again, just that, and what is held comes to nothing behind the end.
func TestFates(t *testing.T) {
	for _, x := range pairs()[:6] {
		for k := range asksOf(x, 2) {
			for _, fate := range fates {
				h, a := begun(t, x.p, 9), reform.New(x.q)
				records(t, h, x.p, 0, 2)
				want := asksOf(x, 2)
				if fate != api.Heard {
					want = slices.Insert(want, k, want[k])
				}
				expectAsked(t, run(h, a, 99, fateOf(k, fate)), want...)
				expectOver(t, a, api.OK)
				expectCounts(t, h, x.q)
				expectNoChange(t, h, func() {
					for h.Do(0) {
					}
				})
				expectRecords(t, h, x.q, 2)
			}
		}
	}
}

// P18.2, P18.4: two questions that have any fate, anywhere on the way; what is held is done ahead of each question that comes behind.
func TestTwoFates(t *testing.T) {
	x := pair{of(0, []int{0, 1}, []int{2, 3}), of(1, []int{1, 5}, []int{2, 3})}
	for k := range 9 {
		for j := range k {
			for _, one := range fates {
				for _, other := range fates {
					for late := k; late < 12; late++ {
						h, a := begun(t, x.p, 9), reform.New(x.q)
						records(t, h, x.p, 0, 3)
						run(h, a, 99, func(i int) int {
							if i == late {
								for h.Do(0) {
								}
							}
							switch i {
							case k:
								return one
							case j:
								return other
							}
							return api.Heard
						})
						expectOver(t, a, api.OK)
						expectCounts(t, h, x.q)
						records(t, h, x.q, 3, 1)
						for h.Do(0) {
						}
						expectRecords(t, h, x.q, 4)
					}
				}
			}
		}
	}
}

// P18.2: nobody hears a hand over nil: it asks the same for ever.
func TestNobodyHears(t *testing.T) {
	for _, h := range []*hand.Hand{nil, hand.New(nil)} {
		a := reform.New(next())
		expectAsked(t, run(h, a, 30, allHeard), slices.Repeat([]api.Ask{layoutAsk()}, 30)...)
		expectAsk(t, a, layoutAsk())
	}
}

// P18.2, P18.3: a unit that stays and is down is asked till it is up; it is not skipped.
func TestDownStays(t *testing.T) {
	for _, k := range []int{1, 5, 6, 7} {
		h, a := begun(t, three(), 9), reform.New(next())
		records(t, h, three(), 0, 7)
		h.Nodes().Unit(k).Crash()
		i := slices.Index(unitsOf(three()), k)
		want := append(asksOf(pair{three(), next()}, 7)[:i+1], slices.Repeat([]api.Ask{sealAsk(4, k)}, 20)...)
		expectAsked(t, run(h, a, i+21, allHeard), want...)
		expectNoChange(t, h, func() {
			if a.Skip() {
				t.Errorf("unit %d stays, and is skipped", k)
			}
		})
		expectAsk(t, a, sealAsk(4, k))
		h.Nodes().Unit(k).Start()
		expectAsked(t, run(h, a, 99, allHeard), asksOf(pair{three(), next()}, 7)[i+1:]...)
		expectOver(t, a, api.OK)
		expectRecords(t, h, next(), 7)
	}
}

// P18.2 to P18.4: units that are down and leave are skipped, as many as leave: what was appended is on the others, which are sealed; behind the change they start again, and answer those of the elder epoch alone.
func TestDownLeaves(t *testing.T) {
	for _, x := range pairs() {
		for _, many := range []int{0, 1, 2, 3, 8} {
			h, a := begun(t, x.p, 99), reform.New(x.q)
			n := h.Nodes()
			records(t, h, x.p, 0, many)
			want := asksOf(x, many)
			var got []api.Ask
			for _, k := range unitsOf(x.p) {
				if !slices.Contains(unitsOf(x.q), k) {
					n.Unit(k).Crash()
					i := slices.IndexFunc(want, func(q api.Ask) bool { return sameAsk(q, sealAsk(x.q.Epoch, k)) })
					got = append(got, run(h, a, i+2-len(got), allHeard)...)
					want = slices.Insert(want, i, want[i])
					expectNoChange(t, h, func() {
						if !a.Skip() {
							t.Errorf("unit %d leaves, and is not skipped", k)
						}
					})
				}
			}
			expectAsked(t, append(got, run(h, a, 99, allHeard)...), want...)
			expectOver(t, a, api.OK)
			expectCounts(t, h, x.q)
			for k := range maxUnits {
				n.Unit(k).Start()
			}
			expectRecords(t, h, x.q, many)
			records(t, h, x.p, many, 2)
			expectRecords(t, h, x.q, many+2)
		}
	}
}

// P18.4: an append that was asked so many questions ahead of a change of each kind, with the units that leave sealed, or down and skipped and up again: it ends with its record on the first units ahead of the tail, or takes another address behind it; the record is there.
func TestHalfAnAppend(t *testing.T) {
	ends := map[bool]int{}
	for _, x := range pairs() {
		for ahead := range 4 {
			for k := range 8 {
				for way := range 4 {
					h, a := begun(t, x.p, 9), log.New(x.p, "r")
					n := h.Nodes()
					records(t, h, x.p, 0, ahead)
					// The last one is done, and perhaps not heard.
					run(h, a, k, fateOf(k-1, []int{api.Heard, api.Deaf}[way%2]))
					for _, u := range unitsOf(x.p) {
						if way/2 == 1 && !slices.Contains(unitsOf(x.q), u) {
							n.Unit(u).Crash()
						}
					}
					changed(t, h, x.q)
					stood, told := stands(h, x.q), tailNow(t, h, x.q)
					for u := range maxUnits {
						n.Unit(u).Start()
					}
					run(h, a, 99, allHeard)
					addr, err, over := a.Over()
					if !over || err != api.OK {
						t.Fatalf("the append is not over: %d, %v, %v", addr, err, over)
					}
					isElder := a.P().Epoch < x.q.Epoch
					if isElder && (addr >= told || stood[addr] != "r") || !isElder && addr < told {
						t.Errorf("it ends in epoch %d with %d, and the tail was %d, the first units had %v", a.P().Epoch, addr, told, stood)
					}
					if kind, s := read(t, h, x.q, addr, false); kind != api.Written || s != "r" {
						t.Errorf("address %d has %d, %q", addr, kind, s)
					}
					ends[isElder]++
				}
			}
		}
	}
	if ends[true] < 100 || ends[false] < 100 {
		t.Errorf("%v ended in the elder epoch, and in the later one", ends)
	}
}

// stands are the texts on the first units of the chains of p, by addresses.
func stands(h *hand.Hand, p api.Projection) map[int]string {
	l := map[int]string{}
	for i, chain := range p.Chains {
		pages := h.Nodes().Unit(chain[0]).Pages()
		for at := range pages.Tail() {
			if s, err := pages.Read(at); err == api.OK {
				l[at*len(p.Chains)+i] = s
			}
		}
	}
	return l
}

// P18.2: a change of the same epoch, to another projection, that comes first, ahead of each question: this one tells that it may not come next; or it is ahead of the other one.
func TestAnotherFirst(t *testing.T) {
	x, another := pair{three(), next()}, of(4, []int{7, 12}, []int{6}, []int{0, 13})
	for k, q := range append(asksOf(x, 5), api.Ask{}) {
		h, a := begun(t, x.p, 9), reform.New(x.q)
		records(t, h, x.p, 0, 5)
		run(h, a, k, allHeard)
		b := reform.New(another)
		run(h, b, 99, allHeard)
		left := asksOf(x, 5)[k:]
		switch {
		case q.Kind == api.AskLayout:
			left = left[:1]
		case q.Kind == api.AskSeal || q.Kind == api.AskChange:
			left = left[:len(left)-1]
		}
		expectAsked(t, run(h, a, 99, allHeard), left...)
		if q.Kind == api.AskStart || q.Kind == 0 {
			expectOver(t, a, api.OK)
			expectOver(t, b, api.ErrNext)
			expectCounts(t, h, x.q)
			expectRecords(t, h, x.q, 5)
		} else {
			expectOver(t, a, api.ErrNext)
			expectOver(t, b, api.OK)
			expectCounts(t, h, another)
			expectRecords(t, h, another, 5)
		}
	}
}

// P18.2, P18.4: a change to just the same projection that comes first, ahead of each question: both end, but who asks the layout when it counts already; what was appended between is there.
func TestSameFirst(t *testing.T) {
	x := pair{three(), next()}
	for k, q := range append(asksOf(x, 5), api.Ask{}) {
		h, a, b := begun(t, x.p, 9), reform.New(x.q), reform.New(x.q)
		records(t, h, x.p, 0, 5)
		run(h, a, k, allHeard)
		left := asksOf(x, 5)[k:]
		switch q.Kind {
		case api.AskLayout:
			run(h, b, 99, allHeard)
			records(t, h, x.q, 5, 2)
			expectAsked(t, run(h, a, 99, allHeard), layoutAsk())
			expectOver(t, a, api.ErrNext)
			expectOver(t, b, api.OK)
		case api.AskSeal, api.AskChange:
			run(h, b, 99, allHeard)
			records(t, h, x.q, 5, 2)
			got := run(h, a, 99, allHeard)
			// What it is told of units that it seals behind the other one has the later records, too.
			left[len(left)-1].Page = min(max(got[len(got)-1].Page, 5), 7)
			expectAsked(t, got, left...)
			expectOver(t, a, api.OK)
			expectOver(t, b, api.OK)
		default:
			run(h, b, 99, allHeard)
			expectOver(t, b, api.ErrNext)
			expectAsked(t, run(h, a, 99, allHeard), left...)
			expectOver(t, a, api.OK)
			records(t, h, x.q, 5, 2)
		}
		expectCounts(t, h, x.q)
		expectRecords(t, h, x.q, 7)
	}
}

// P18.2: two changes, one behind the other, that come ahead of each question: it tells ErrNext, at layout and at change, or ErrSealed.
func TestTwoFirst(t *testing.T) {
	x, l := pair{three(), next()}, chainOf()
	for k, q := range asksOf(x, 5) {
		h, a := begun(t, x.p, 9), reform.New(x.q)
		records(t, h, x.p, 0, 5)
		run(h, a, k, allHeard)
		if q.Kind != api.AskStart {
			changed(t, h, l[1])
		}
		changed(t, h, l[2])
		want, asks := api.ErrSealed, 1
		switch {
		case q.Kind == api.AskLayout || q.Kind == api.AskChange:
			want = api.ErrNext
		case q.Kind == api.AskSeal && (q.Unit == 0 || q.Unit == 4):
			// What left with the first of the two is sealed by that alone.
			asks = 2
		}
		expectNoChange(t, h, func() {
			expectAsked(t, run(h, a, 99, allHeard), asksOf(x, 5)[k:k+asks]...)
		})
		expectOver(t, a, want)
		expectCounts(t, h, l[2])
		expectRecords(t, h, l[2], 5)
	}
}

// P18.2, P18.4: a change that is given up ahead of each question, and begun anew: it ends, or tells that it may not come next, where it counts already; then the one behind it ends.
func TestGivenUp(t *testing.T) {
	for _, lastFate := range fates[:4] {
		x, behind := pair{three(), next()}, chainOf()[2]
		for k := range append(asksOf(x, 5), api.Ask{}) {
			h, a := begun(t, x.p, 9), reform.New(x.q)
			records(t, h, x.p, 0, 5)
			run(h, a, k, fateOf(k-1, lastFate))
			counts := alike(h.Nodes().Layout().Now(), x.q)
			b := reform.New(x.q)
			if got := run(h, b, 99, allHeard); counts {
				expectAsked(t, got, layoutAsk())
				expectOver(t, b, api.ErrNext)
			} else {
				expectAsked(t, got, asksOf(x, 5)...)
				expectOver(t, b, api.OK)
				expectCounts(t, h, x.q)
				records(t, h, x.q, 5, 1)
				expectRecords(t, h, x.q, 6)
			}
			for h.Do(0) {
			}
			many := 5
			if !counts {
				many = 6
			}
			changed(t, h, behind)
			expectRecords(t, h, behind, many)
			records(t, h, behind, many, 1)
			expectRecords(t, h, behind, many+1)
		}
	}
}

// P18.2: a change that is given up behind some seals, and another one of its epoch begun: that ends, with the same tail.
func TestGivenUpForAnother(t *testing.T) {
	x, another := pair{three(), next()}, of(4, []int{4, 7}, []int{6, 2}, []int{0})
	for k := range 8 {
		h, a := begun(t, x.p, 9), reform.New(x.q)
		records(t, h, x.p, 0, 5)
		run(h, a, k, allHeard)
		b := reform.New(another)
		expectAsked(t, run(h, b, 99, allHeard), asksOf(pair{three(), another}, 5)...)
		expectOver(t, b, api.OK)
		expectCounts(t, h, another)
		expectRecords(t, h, another, 5)
	}
}

// P18.2: a unit that left may come back by proj.Next, but not by the layout: it tells ErrNext at change; begun anew without it, it ends.
func TestComesBack(t *testing.T) {
	h := begun(t, three(), 9)
	records(t, h, three(), 0, 4)
	changed(t, h, next())
	q := of(5, []int{7, 4}, []int{6}, []int{1})
	a := reform.New(q)
	expectAsked(t, run(h, a, 99, allHeard), asksOf(pair{next(), q}, 4)[:8]...)
	expectOver(t, a, api.ErrNext)
	if now := h.Nodes().Layout().Now(); !alike(now, next()) {
		t.Errorf("%v counts", now)
	}
	q = of(5, []int{7, 10}, []int{6}, []int{1})
	changed(t, h, q)
	expectRecords(t, h, q, 4)
}

// P18.2: another one started the sequencer meanwhile, in a lesser epoch, in the same one, in a greater one
func TestStartedMeanwhile(t *testing.T) {
	for _, epoch := range []int{1, 2, 3, 4} {
		q := of(2, []int{0, 1})
		h, a := begun(t, of(1, []int{0, 1}), 9), reform.New(q)
		records(t, h, of(1, []int{0, 1}), 0, 3)
		run(h, a, 4, allHeard)
		h.Nodes().Do(startAsk(epoch, 7))
		expectAsked(t, run(h, a, 99, allHeard), startAsk(2, 3))
		if epoch > 2 {
			expectOver(t, a, api.ErrSealed)
		} else {
			expectOver(t, a, api.OK)
		}
		want := 3
		if epoch > 1 {
			want = 7
		}
		if x := h.Nodes().Do(api.Ask{Kind: api.AskTail, Epoch: max(epoch, 2)}); x.N != want {
			t.Errorf("started in %d: the tail is %d, not %d", epoch, x.N, want)
		}
	}
}

// P18.2: the sequencer crashes ahead of each question: it is started all the same, and tells what lies behind all that was appended.
func TestSequencerCrashes(t *testing.T) {
	x := pair{three(), next()}
	for k := range asksOf(x, 5) {
		h, a := begun(t, x.p, 9), reform.New(x.q)
		records(t, h, x.p, 0, 5)
		run(h, a, k, allHeard)
		h.Nodes().Order().Crash()
		expectAsked(t, run(h, a, 99, allHeard), asksOf(x, 5)[k:]...)
		expectOver(t, a, api.OK)
		expectCounts(t, h, x.q)
		expectRecords(t, h, x.q, 5)
	}
	// Behind a Start that nobody heard it knows nothing, and the change is over; the next one starts it.
	h, a := begun(t, x.p, 9), reform.New(x.q)
	records(t, h, x.p, 0, 5)
	run(h, a, 9, fateOf(8, api.Deaf))
	h.Nodes().Order().Crash()
	expectAsked(t, run(h, a, 99, allHeard), startAsk(4, 5))
	expectOver(t, a, api.OK)
	if h.Nodes().Order().Knows() {
		t.Errorf("a crashed sequencer starts in its own epoch")
	}
	changed(t, h, chainOf()[2])
	expectRecords(t, h, chainOf()[2], 5)
}

// P18.2: addresses that were told and not written are told again; what was filled ahead is behind the tail's end.
func TestHolesAhead(t *testing.T) {
	h := begun(t, three(), 9)
	n := h.Nodes()
	records(t, h, three(), 0, 4)
	for range 6 {
		n.Do(api.Ask{Kind: api.AskNext, Epoch: 3})
	}
	changed(t, h, next())
	expectRecords(t, h, next(), 4)
	// Address 10 is filled: all that is below stays a hole.
	if kind, _ := read(t, h, next(), 10, true); kind != api.Junk {
		t.Errorf("address 10 is %d", kind)
	}
	changed(t, h, chainOf()[2])
	if got := tailNow(t, h, chainOf()[2]); got != 11 {
		t.Errorf("the tail is %d", got)
	}
	for addr := range 11 {
		want := api.Empty
		switch {
		case addr < 4:
			want = api.Written
		case addr == 10:
			want = api.Junk
		}
		if kind, _ := read(t, h, chainOf()[2], addr, false); kind != want {
			t.Errorf("address %d is %d, not %d", addr, kind, want)
		}
	}
}

// P18.2: a full log stays full.
func TestFullLog(t *testing.T) {
	p := of(0, []int{4, 5}, []int{6}, []int{0, 1}, []int{9, 8, 2})
	for most := range 6 {
		h := begun(t, p, maxPages)
		n := h.Nodes()
		for k, unit := range []int{5, 6, 1, 8} {
			if addr := maxAddr - 4 + k; addr < maxAddr-most {
				n.Do(api.Ask{Kind: api.AskWrite, Unit: unit, Page: addr / 4, Data: "s"})
			}
		}
		q := of(1, p.Chains...)
		a := reform.New(q)
		want := maxAddr - most
		if most >= 4 {
			want = 0
		}
		expectAsked(t, run(h, a, 99, allHeard), asksOf(pair{p, q}, want)...)
		b := log.New(q, "r")
		run(h, b, 99, allHeard)
		if _, err, _ := b.Over(); (err == api.ErrFull) != (most == 0) {
			t.Errorf("the tail is %d: %v", want, err)
		}
	}
}

// P18.2: asking changes no node, at each place, however often; nor does Skip.
func TestAskingChangesNoNode(t *testing.T) {
	x := pair{three(), next()}
	for k := range append(asksOf(x, 3), api.Ask{}) {
		h, a := begun(t, x.p, 9), reform.New(x.q)
		records(t, h, x.p, 0, 3)
		run(h, a, k, allHeard)
		expectNoChange(t, h, func() {
			for range 3 {
				a.Ask()
				a.Over()
				a.Skip()
			}
		})
	}
}
