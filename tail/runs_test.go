package tail_test

import (
	"fmt"
	"slices"
	"strings"
	"testing"

	"escheat/api"
	log "escheat/append"
	"escheat/hand"
	"escheat/place"
	"escheat/proj"
	"escheat/rpc"
	"escheat/tail"
)

// begun is a hand over the nodes of a projection that is good, and of a room that is one.
func begun(t testing.TB, p api.Projection, room int) *hand.Hand {
	t.Helper()
	n, err := rpc.New(p, room)
	if err != api.OK {
		t.Fatalf("New(%v, %d): %v", p, room, err)
	}
	return hand.New(n)
}

// asker is a tail, or an append.
type asker interface {
	Ask() (api.Ask, bool)
	Hear(x api.Answer, heard bool)
}

// run lets one go on, of each question the fate that fate tells, till it is over or so many were asked; it tells those.
func run(h *hand.Hand, a asker, most int, fate func(k int) int) []api.Ask {
	var l []api.Ask
	for q, asks := a.Ask(); asks && len(l) < most; q, asks = a.Ask() {
		l = append(l, q)
		a.Hear(h.Ask(q, fate(len(l)-1)))
	}
	return l
}

func allHeard(int) int { return api.Heard }

// fates are all fates that differ in what becomes of a question, and some that do not.
var fates = []int{api.Heard, api.Lost, api.Deaf, api.Held, 4, -1}

// appended appends so many records, one behind the other, and tells the last one's address.
func appended(t testing.TB, h *hand.Hand, p api.Projection, many int) int {
	t.Helper()
	last := -1
	for k := range many {
		a := log.New(p, fmt.Sprint("record ", k))
		run(h, a, 99, allHeard)
		addr, err, over := a.Over()
		if !over || err != api.OK {
			t.Fatalf("it is not appended: %d, %v, %v", addr, err, over)
		}
		last = addr
	}
	return last
}

// expectAsked holds that these questions were asked, one behind the other.
func expectAsked(t testing.TB, got []api.Ask, want ...api.Ask) {
	t.Helper()
	if !slices.EqualFunc(got, want, func(a, b api.Ask) bool { return asked(a) == asked(b) }) {
		t.Errorf("it asked %v, not %v", got, want)
	}
}

// expectTail holds that a tail that begins with p asks just this of all nodes that are there, and what it tells.
func expectTail(t testing.TB, h *hand.Hand, p api.Projection, want int, asks ...api.Ask) {
	t.Helper()
	a := tail.New(p)
	expectAsked(t, run(h, a, 99, allHeard), asks...)
	expectOver(t, a, want, api.OK)
}

// seal seals the units of p that are up into the epoch, and tells their tails.
func seal(n *rpc.Nodes, p api.Projection, epoch int) map[int]int {
	l := map[int]int{}
	for _, k := range proj.Units(p) {
		if x := n.Do(api.Ask{Kind: api.AskSeal, Unit: k, Epoch: epoch}); x.Code == 0 {
			l[k] = x.N
		}
	}
	return l
}

func change(t testing.TB, n *rpc.Nodes, q api.Projection) {
	t.Helper()
	if x := n.Do(api.Ask{Kind: api.AskChange, P: q}); x.Code != 0 {
		t.Fatalf("%v does not count: %s", q, told(x))
	}
}

func start(t testing.TB, n *rpc.Nodes, epoch, tail int) {
	t.Helper()
	if x := n.Do(api.Ask{Kind: api.AskStart, Epoch: epoch, Page: tail}); x.Code != 0 {
		t.Fatalf("it is not started: %s", told(x))
	}
}

// reform lets q count behind the projection that does: it seals the units that are up, and starts the sequencer behind what they have.
func reform(t testing.TB, n *rpc.Nodes, q api.Projection) {
	t.Helper()
	p := n.Layout().Now()
	tails := seal(n, p, q.Epoch)
	change(t, n, q)
	start(t, n, q.Epoch, place.Tail(p, tails))
}

// all is all that the nodes have.
func all(n *rpc.Nodes) string {
	var l []string
	for k := range maxUnits {
		u := n.Unit(k)
		l = append(l, fmt.Sprint("unit ", k, u.Epoch(), u.Down(), u.Pages().Edge(), u.Pages().Used(), u.Pages().Tail()))
		for at := range u.Pages().Tail() {
			s, err := u.Pages().Read(at)
			l = append(l, fmt.Sprint(s, err))
		}
	}
	order := n.Do(api.Ask{Kind: api.AskTail, Epoch: n.Order().Epoch()})
	return strings.Join(append(l, fmt.Sprint(n.Order().Epoch(), n.Order().Knows(), order, n.Layout().Now(), n.Layout().Used(), n.Do(layoutAsk()))), "; ")
}

// P17.1, P17.2: the tail of a new log, over a hand: one question, and 0
func TestNewLog(t *testing.T) {
	for _, p := range goods() {
		h := begun(t, p, 9)
		before := all(h.Nodes())
		for range 3 {
			expectTail(t, h, p, 0, tailAsk(p.Epoch))
		}
		if now := all(h.Nodes()); now != before {
			t.Errorf("the nodes had %s, and behind the tails %s", before, now)
		}
	}
}

// P17.2, P17.3: tails ahead of, between and behind appends, that ask for it several times: all that was appended lies below, and asking changes nothing.
func TestOneBehindTheOther(t *testing.T) {
	for _, p := range goods() {
		h := begun(t, p, maxPages)
		for k := range 24 {
			before := all(h.Nodes())
			for range 1 + k%3 {
				expectTail(t, h, p, k, tailAsk(p.Epoch))
			}
			if now := all(h.Nodes()); now != before {
				t.Errorf("the nodes had %s, and behind the tails %s", before, now)
			}
			if addr := appended(t, h, p, 1); addr != k {
				t.Errorf("appended at %d, and the tail was %d", addr, k)
			}
		}
		expectTail(t, h, p, 24, tailAsk(p.Epoch))
	}
}

// P17.3: what an append was told, and what it wrote so far, lies below the tail as well, though it is not over yet.
func TestHalfAnAppend(t *testing.T) {
	for k := range 5 {
		h, a := begun(t, three(), 9), log.New(three(), "r")
		run(h, a, k, allHeard)
		expectTail(t, h, three(), min(k, 1), tailAsk(3))
		run(h, a, 99, allHeard)
		expectTail(t, h, three(), 1, tailAsk(3))
	}
}

// P17.2, P17.3: four questions of a tail that have any fates: what is not heard is asked again, and the log is left as it was.
func TestFates(t *testing.T) {
	const many = 4
	for ways := range len(fates) * len(fates) * len(fates) * len(fates) {
		var l []int
		for k := ways; len(l) < many; k /= len(fates) {
			l = append(l, fates[k%len(fates)])
		}
		times := slices.Index(l, api.Heard)
		if times < 0 {
			times = many
		}
		h, a := begun(t, three(), 9), tail.New(three())
		appended(t, h, three(), 2)
		before := all(h.Nodes())
		got := run(h, a, 99, func(k int) int {
			if k < many {
				return l[k]
			}
			return api.Heard
		})
		expectAsked(t, got, slices.Repeat([]api.Ask{tailAsk(3)}, times+1)...)
		expectOver(t, a, 2, api.OK)
		for h.Do(0) {
		}
		if now := all(h.Nodes()); now != before {
			t.Errorf("fates %v: the nodes had %s, and behind the tail %s", l, before, now)
		}
		expectOver(t, a, 2, api.OK)
	}
}

// P17.2: the same fates at layout: of each question there
func TestLayoutFates(t *testing.T) {
	for _, one := range fates {
		for _, other := range fates {
			h, a := begun(t, three(), 9), tail.New(three())
			reform(t, h.Nodes(), next())
			want := []api.Ask{tailAsk(3), layoutAsk()}
			if one != api.Heard {
				want = append(want, layoutAsk())
			}
			if want = append(want, tailAsk(4)); other != api.Heard {
				want = append(want, tailAsk(4))
			}
			k := len(want) - 2
			if other == api.Heard {
				k = 99
			}
			expectAsked(t, run(h, a, 99, func(i int) int {
				switch i {
				case 1:
					return one
				case k:
					return other
				}
				return api.Heard
			}), want...)
			expectOver(t, a, 0, api.OK)
			expectP(t, a, next())
		}
	}
}

// P17.2: nobody hears a hand over nil: it asks the same for ever.
func TestNobodyHears(t *testing.T) {
	for _, h := range []*hand.Hand{nil, hand.New(nil)} {
		a := tail.New(three())
		expectAsked(t, run(h, a, 30, allHeard), slices.Repeat([]api.Ask{tailAsk(3)}, 30)...)
		expectAsk(t, a, tailAsk(3))
	}
}

// P17.2, P17.3: a sequencer that knows nothing is asked again, till it is started in a later epoch; then the layout is asked.
func TestNoOrder(t *testing.T) {
	for _, many := range []int{0, 1, 5} {
		h, a := begun(t, three(), 9), tail.New(three())
		n := h.Nodes()
		appended(t, h, three(), many)
		n.Order().Crash()
		expectAsked(t, run(h, a, 5, allHeard), slices.Repeat([]api.Ask{tailAsk(3)}, 5)...)
		if x := n.Do(api.Ask{Kind: api.AskStart, Epoch: 3, Page: many}); x.Code != int(api.ErrSealed) {
			t.Fatalf("a crashed sequencer starts in its own epoch: %s", told(x))
		}
		expectAsked(t, run(h, a, 2, allHeard), tailAsk(3), tailAsk(3))
		reform(t, n, next())
		expectAsked(t, run(h, a, 99, allHeard), tailAsk(3), layoutAsk(), tailAsk(4))
		expectOver(t, a, many, api.OK)
		expectP(t, a, next())
	}
}

// P17.2: a sequencer that crashes behind a question that was lost, deaf or held
func TestCrashBetween(t *testing.T) {
	for _, fate := range fates[1:] {
		h, a := begun(t, three(), 9), tail.New(three())
		appended(t, h, three(), 3)
		run(h, a, 1, func(int) int { return fate })
		h.Nodes().Order().Crash()
		expectAsked(t, run(h, a, 2, allHeard), tailAsk(3), tailAsk(3))
		reform(t, h.Nodes(), next())
		expectAsked(t, run(h, a, 99, allHeard), tailAsk(3), layoutAsk(), tailAsk(4))
		expectOver(t, a, 3, api.OK)
	}
}

// P17.2: a sequencer that is started later in just the epoch of the projection that was heard, with one in between that is not its own
func TestStartedInItsEpoch(t *testing.T) {
	for _, crashes := range []int{0, 1} {
		h, a := begun(t, three(), 9), tail.New(three())
		n := h.Nodes()
		appended(t, h, three(), 3)
		tails := seal(n, three(), 4)
		if crashes == 1 {
			n.Order().Crash()
		}
		change(t, n, next())
		expectTailWaits(t, h, tail.New(next()))
		if b := tail.New(three()); crashes == 0 {
			// Nothing was appended since: the elder sequencer tells it yet.
			run(h, b, 99, allHeard)
			expectOver(t, b, 3, api.OK)
		} else {
			expectAsked(t, run(h, b, 3, allHeard), tailAsk(3), tailAsk(3), tailAsk(3))
		}
		start(t, n, 4, place.Tail(three(), tails))
		expectAsked(t, run(h, a, 99, allHeard), tailAsk(3), layoutAsk(), tailAsk(4))
		expectOver(t, a, 3, api.OK)
		n.Order().Crash()
		b := tail.New(next())
		expectAsked(t, run(h, b, 3, allHeard), tailAsk(4), tailAsk(4), tailAsk(4))
	}
}

// expectTailWaits holds that a tail whose projection counts already goes between the sequencer and the layout, while that is not started yet.
func expectTailWaits(t *testing.T, h *hand.Hand, a *tail.Tail) {
	t.Helper()
	expectAsked(t, run(h, a, 5, allHeard), tailAsk(4), layoutAsk(), tailAsk(4), layoutAsk(), tailAsk(4))
	expectAsk(t, a, layoutAsk())
	expectP(t, a, next())
}

// P17.2: the sequencer is in a later epoch by one and by more: the layout is asked, once if it counts there already, and again while it does not.
func TestSealedSequencer(t *testing.T) {
	for _, p := range []api.Projection{of(2, []int{4}), of(3, []int{4, 5}, []int{6}), of(0, []int{1})} {
		h := begun(t, three(), 9)
		appended(t, h, three(), 4)
		if p.Epoch != 3 {
			expectTail(t, h, p, 4, tailAsk(p.Epoch), layoutAsk(), tailAsk(3))
		} else {
			expectTail(t, h, p, 4, tailAsk(3))
		}
	}
	h, a := begun(t, three(), 9), tail.New(three())
	n := h.Nodes()
	start(t, n, 5, 7)
	expectAsked(t, run(h, a, 4, allHeard), tailAsk(3), layoutAsk(), tailAsk(3), layoutAsk())
	change(t, n, next())
	expectAsked(t, run(h, a, 4, allHeard), tailAsk(3), layoutAsk(), tailAsk(4), layoutAsk())
	change(t, n, of(5, next().Chains...))
	expectAsked(t, run(h, a, 99, allHeard), tailAsk(4), layoutAsk(), tailAsk(5))
	expectOver(t, a, 7, api.OK)
	expectP(t, a, of(5, next().Chains...))
}

// P17.2: a tail asked with a later epoch than the sequencer's comes back to the projection that counts.
func TestLaterThanTheSequencer(t *testing.T) {
	h, a := begun(t, three(), 9), tail.New(next())
	appended(t, h, three(), 2)
	expectAsked(t, run(h, a, 99, allHeard), tailAsk(4), layoutAsk(), tailAsk(3))
	expectOver(t, a, 2, api.OK)
	expectP(t, a, three())
}

// P17.2: a log that is full, or nearly so: its tail is told, MaxAddr too.
func TestFullLog(t *testing.T) {
	p := of(1, []int{4, 5}, []int{6}, []int{0, 1}, []int{9, 8, 2})
	for most := range 5 {
		h := begun(t, of(0, p.Chains...), maxPages)
		n := h.Nodes()
		change(t, n, p)
		start(t, n, 1, maxAddr-most)
		for k := range 7 {
			at := min(maxAddr-most+k, maxAddr)
			expectTail(t, h, p, at, tailAsk(1))
			a := log.New(p, "r")
			run(h, a, 99, allHeard)
			if addr, err, _ := a.Over(); (err == api.ErrFull) != (at == maxAddr) || err == api.OK && addr != at {
				t.Errorf("behind the tail %d: %d, %v", at, addr, err)
			}
		}
	}
}

// laters are projections that may come next behind three: a unit leaves, one comes in, or the Epoch alone is another one.
func laters() []api.Projection {
	return []api.Projection{
		next(), of(4, three().Chains...), of(4, []int{5, 7}, []int{6}, []int{0, 1}), of(4, []int{4, 7}, []int{6}, []int{0, 1}), of(4, []int{4, 5}, []int{6}, []int{1}), of(4, []int{7}, []int{6}, []int{0, 1}), of(4, []int{4, 5, 7, 9}, []int{6, 10}, []int{0, 1, 11}),
	}
}

// P17.2, P17.3: a new layout ahead of any question of a tail, with units that leave while they are down: what was appended ahead of it, and behind, lies below.
func TestNewLayoutMeanwhile(t *testing.T) {
	for _, q := range laters() {
		for _, many := range []int{0, 1, 2, 7} {
			for k := range 3 {
				h, a := begun(t, three(), 9), tail.New(three())
				n := h.Nodes()
				last := appended(t, h, three(), many)
				// Two that are not heard are ahead of the new layout.
				run(h, a, k, func(int) int { return fates[1+k] })
				gone := slices.DeleteFunc(proj.Units(three()), func(u int) bool { return slices.Contains(proj.Units(q), u) })
				for _, u := range gone {
					n.Unit(u).Crash()
				}
				reform(t, n, q)
				if last+1 != many {
					t.Fatalf("%d records: the last one is at %d", many, last)
				}
				if k == 2 {
					last = appended(t, h, q, 3)
				}
				expectAsked(t, run(h, a, 99, allHeard), tailAsk(3), layoutAsk(), tailAsk(4))
				expectOver(t, a, last+1, api.OK)
				expectP(t, a, q)
			}
		}
	}
}

// P17.2: a new layout between the answer of one layout and the next question: each sealed epoch is asked once more.
func TestLayoutsOneBehindTheOther(t *testing.T) {
	h, a := begun(t, three(), 9), tail.New(three())
	n := h.Nodes()
	appended(t, h, three(), 5)
	for epoch := 3; epoch < 9; epoch++ {
		reform(t, n, of(epoch+1, three().Chains...))
		expectAsked(t, run(h, a, 2, allHeard), tailAsk(epoch), layoutAsk())
		expectP(t, a, of(epoch+1, three().Chains...))
	}
	expectAsked(t, run(h, a, 99, allHeard), tailAsk(9))
	expectOver(t, a, 5, api.OK)
}

// P17.2, P17.3: appends ahead of each question of a tail, through a new layout: it tells what there was when it was asked last.
func TestAppendsBetween(t *testing.T) {
	h, a := begun(t, three(), 9), tail.New(three())
	n := h.Nodes()
	appended(t, h, three(), 1)
	expectAsked(t, run(h, a, 1, func(int) int { return api.Deaf }), tailAsk(3))
	appended(t, h, three(), 1)
	expectAsked(t, run(h, a, 1, func(int) int { return api.Lost }), tailAsk(3))
	appended(t, h, three(), 1)
	reform(t, n, next())
	expectAsked(t, run(h, a, 1, allHeard), tailAsk(3))
	appended(t, h, next(), 1)
	expectAsked(t, run(h, a, 1, allHeard), layoutAsk())
	appended(t, h, next(), 1)
	expectAsked(t, run(h, a, 1, func(int) int { return api.Held }), tailAsk(4))
	last := appended(t, h, next(), 1)
	expectAsked(t, run(h, a, 1, allHeard), tailAsk(4))
	expectOver(t, a, last+1, api.OK)
	appended(t, h, next(), 2)
	h.Do(0)
	expectOver(t, a, last+1, api.OK)
	if last != 5 {
		t.Errorf("the sixth record is at %d", last)
	}
}

// P17.2: several tails between each other: each tells what there was when it was answered itself.
func TestTailsBetweenEachOther(t *testing.T) {
	h := begun(t, three(), 9)
	var l []*tail.Tail
	for range 5 {
		l = append(l, tail.New(three()))
	}
	reform(t, h.Nodes(), next())
	for range 2 {
		for _, a := range l {
			run(h, a, 1, allHeard)
		}
	}
	for k, a := range l {
		appended(t, h, next(), 2)
		expectAsked(t, run(h, a, 1, allHeard), tailAsk(4))
		for j, b := range l {
			if j <= k {
				expectOver(t, b, 2*j+2, api.OK)
			} else {
				expectAsk(t, b, tailAsk(4))
			}
		}
	}
}
