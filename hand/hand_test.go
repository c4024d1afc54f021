package hand_test

import (
	"fmt"
	"math"
	"reflect"
	"slices"
	"testing"

	"escheat/api"
	"escheat/hand"
	"escheat/rpc"
)

// P14.2: the chapter's example
func TestExample(t *testing.T) {
	h := hand.New(begun(t, of(0, []int{0}), 1))
	expectNone(t, h, nextOf(0), api.Deaf)
	expectHeard(t, h, nextOf(0), number(1, 0))
}

// P14.1: nothing is held by a new one; Nodes is what New was given, each time, whatever was asked between; nodes that were in use go on as they were.
func TestNew(t *testing.T) {
	for _, used := range []int{0, 1, 5} {
		n := begun(t, of(2, []int{0, 1}, []int{7}), 3)
		for range used {
			n.Do(nextOf(2))
			n.Do(writeOf(used, used))
			n.Do(changeOf(of(3, []int{0, 1, 4}, []int{7})))
		}
		n.Unit(9).Crash()
		var h *hand.Hand
		expectIdle(t, n, func() {
			h = hand.New(n)
			for range 3 {
				if h.Nodes() != n {
					t.Errorf("Nodes() is not what New was given")
				}
				expectHeld(t, h)
			}
		})
		expectHeard(t, h, nextOf(2), number(used, 2))
		for _, fate := range fates {
			for _, kind := range kinds {
				h.Ask(full(kind, used), fate)
				h.Do(1)
				h.Drop(2)
				if h.Nodes() != n {
					t.Errorf("Nodes() is another one behind kind %d, fate %d", kind, fate)
				}
			}
		}
	}
}

// P14.1: what is done to the nodes themselves is seen by Ask and by Do, and what these do is seen by the nodes.
func TestNodesThemselves(t *testing.T) {
	n := begun(t, of(2, []int{0, 1}), 4)
	h := hand.New(n)
	h.Nodes().Do(nextOf(2))
	n.Order().Do(nextOf(2))
	expectHeard(t, h, nextOf(2), number(2, 2))
	expectNone(t, h, nextOf(2), api.Deaf)
	expectNone(t, h, nextOf(2), api.Held)
	h.Do(0)
	if got := h.Nodes().Order().Do(nextOf(2)); got.N != 5 {
		t.Errorf("the sequencer saw three questions, and tells %s", told(got))
	}
	h.Nodes().Order().Crash()
	expectHeard(t, h, nextOf(2), codeIn(api.ErrNoOrder, 2))
	expectHeard(t, h, startOf(3, 9), codeIn(api.OK, 3))
	if !h.Nodes().Order().Knows() || n.Order().Epoch() != 3 {
		t.Errorf("the sequencer does not see that it was started")
	}

	n.Unit(6).Do(to(0, api.AskWrite, 0, 1, "a"))
	expectHeard(t, h, to(6, api.AskRead, 0, 1, ""), api.Answer{Data: "a"})
	h.Nodes().Unit(6).Crash()
	expectHeard(t, h, to(6, api.AskRead, 0, 1, ""), code(api.ErrDown))
	n.Unit(6).Start()
	expectHeard(t, h, to(6, api.AskSeal, 3, 0, ""), number(2, 3))
	expectNone(t, h, to(6, api.AskWrite, 3, 2, "b"), api.Deaf)
	expectNone(t, h, to(6, api.AskWrite, 3, 3, "c"), api.Held)
	h.Do(0)
	for _, nodes := range []*rpc.Nodes{n, h.Nodes()} {
		if u := nodes.Unit(6); u.Epoch() != 3 || u.Pages().Kind(2) != api.Written || u.Pages().Kind(3) != api.Written {
			t.Errorf("unit 6 does not see what was asked of it: %v", showUnit(u).kinds)
		}
	}

	next := of(3, []int{1, 4})
	h.Nodes().Layout().Do(changeOf(next))
	expectHeard(t, h, lookOf(), api.Answer{P: next, Mark: -1, N: -1})
	expectNone(t, h, markOf(4, 5, 6), api.Deaf)
	if got := n.Layout().Do(lookOf()); !reflect.DeepEqual(got, api.Answer{P: next, Mark: 4, Size: 5, N: 6}) {
		t.Errorf("the layout does not see what was marked: %s", told(got))
	}
}

// asks are questions of each kind with each Code, and their answers of nodes on which lay was done.
func asks(k int) (lay, later []api.Ask, want []api.Answer) {
	first, next := of(2, []int{0, 1}, []int{15}), of(3, []int{1, 4}, []int{15})
	lay = []api.Ask{
		to(k, api.AskWrite, 0, 3, "a"), to(k, api.AskFill, 0, 4, ""), to(k, api.AskTrim, 0, 2, ""), to(k, api.AskSeal, 6, 0, ""), to(k, api.AskWrite, 6, 70, longest),
		startOf(5, maxAddr-1), nextOf(5), markOf(7, 8, 9), changeOf(next),
	}
	refused := api.Answer{Code: int(api.ErrNext), P: next}
	for _, x := range []struct {
		a    api.Ask
		want api.Answer
	}{
		{to(k, api.AskWrite, 5, 9, "a"), codeIn(api.ErrSealed, 6)}, {to(k, api.AskWrite, 6, maxPages, "a"), codeIn(api.ErrArg, 6)}, {to(k, api.AskWrite, 6, 9, longer), codeIn(api.ErrLong, 6)},
		{to(k, api.AskWrite, 6, 1, "a"), codeIn(api.ErrTrimmed, 6)}, {to(k, api.AskWrite, 6, 3, "a"), codeIn(api.ErrWritten, 6)}, {to(k, api.AskWrite, 6, 9, "a"), codeIn(api.ErrFull, 6)},
		{to(k, api.AskFill, 0, 9, ""), codeIn(api.ErrSealed, 6)}, {to(k, api.AskFill, 6, -1, ""), codeIn(api.ErrArg, 6)}, {to(k, api.AskFill, 7, 4, ""), codeIn(api.OK, 6)},
		{to(k, api.AskRead, 5, 3, ""), codeIn(api.ErrSealed, 6)}, {to(k, api.AskRead, 6, 1, ""), codeIn(api.ErrTrimmed, 6)}, {to(k, api.AskRead, 6, 9, ""), codeIn(api.ErrUnwrit, 6)},
		{to(k, api.AskRead, 6, 4, ""), codeIn(api.ErrJunk, 6)}, {to(k, api.AskRead, 8, 3, ""), api.Answer{Data: "a", Epoch: 6}}, {to(k, api.AskRead, 6, 70, ""), api.Answer{Data: longest, Epoch: 6}},
		{to(k, api.AskTrim, 6, maxPages+1, ""), codeIn(api.ErrArg, 6)}, {to(k, api.AskTrim, 6, 1, ""), codeIn(api.OK, 6)}, {to(k, api.AskSeal, 5, 0, ""), codeIn(api.ErrSealed, 6)},
		{to(k, api.AskSeal, 6, 0, ""), number(71, 6)}, {to(maxUnits, api.AskRead, 6, 3, ""), code(api.ErrArg)}, {to(-1, api.AskSeal, 9, 0, ""), code(api.ErrArg)},
		{nextOf(5), codeIn(api.ErrFull, 5)}, {nextOf(2), codeIn(api.ErrSealed, 5)}, {tailOf(6), codeIn(api.ErrSealed, 5)}, {tailOf(5), number(maxAddr, 5)},
		{startOf(5, 0), codeIn(api.ErrSealed, 5)}, {startOf(6, maxAddr+1), codeIn(api.ErrArg, 5)},
		{lookOf(), api.Answer{P: next, Mark: 7, Size: 8, N: 9}}, {changeOf(first), refused}, {changeOf(api.Projection{}), refused}, {changeOf(of(4, []int{1, 0}, []int{15})), refused},
		{markOf(maxAddr, 8, 10), code(api.ErrArg)}, {markOf(7, maxText+1, 10), code(api.ErrArg)}, {markOf(1, 2, 9), marked(7, 8, 9)},
		{api.Ask{}, code(api.ErrArg)}, {full(12, 5), code(api.ErrArg)}, {full(-1, 5), code(api.ErrArg)}, {full(math.MaxInt, 5), code(api.ErrArg)},
	} {
		later, want = append(later, x.a), append(want, x.want)
	}
	return lay, later, want
}

// begunWith is nodes on which these were done.
func begunWith(t testing.TB, lay []api.Ask) *rpc.Nodes {
	n := begun(t, of(2, []int{0, 1}, []int{15}), 3)
	for _, a := range lay {
		if got := n.Do(a); got.Code != int(api.OK) {
			t.Fatalf("%s: %s", asked(a), told(got))
		}
	}
	return n
}

// P14.2: who is heard is told the nodes' answer, whole, with each Code; Do tells only that there was such a question, whatever the Code; all other fates tell nothing.
func TestCodes(t *testing.T) {
	met := map[int]int{}
	for _, k := range []int{0, 1, 9, maxUnits - 1} {
		lay, later, want := asks(k)
		n := begunWith(t, lay)
		h := hand.New(n)
		for i, a := range later {
			met[want[i].Code]++
			expectIdle(t, n, func() {
				expectHeard(t, h, a, want[i])
				for _, fate := range append([]int{api.Deaf, api.Held}, others...) {
					expectNone(t, h, a, fate)
				}
				if !h.Do(0) || h.Do(0) || h.Drop(0) {
					t.Errorf("%s: it was held, and Do tells other things", asked(a))
				}
			})
		}
		n.Unit(k).Crash()
		n.Order().Crash()
		for _, kind := range ofUnits {
			expectHeard(t, h, to(k, kind, 7, 9, "b"), code(api.ErrDown))
			expectNone(t, h, to(k, kind, 7, 9, "b"), api.Held)
			met[int(api.ErrDown)]++
		}
		expectHeard(t, h, nextOf(5), codeIn(api.ErrNoOrder, 5))
		expectNone(t, h, tailOf(5), api.Held)
		met[int(api.ErrNoOrder)]++
		for range len(ofUnits) + 1 {
			if !h.Do(0) {
				t.Errorf("what the nodes refuse was held, and Do tells false")
			}
		}
	}
	for _, e := range []api.Errno{
		api.OK, api.ErrArg, api.ErrLong, api.ErrSealed, api.ErrWritten, api.ErrUnwrit, api.ErrTrimmed, api.ErrFull, api.ErrDown, api.ErrJunk, api.ErrNoOrder, api.ErrNext,
	} {
		if met[int(e)] == 0 {
			t.Errorf("no question was answered %v", e)
		}
	}
}

// effects are questions that change a node, and its name, one behind the other.
func effects() (l []api.Ask, names []string) {
	for _, k := range []int{0, 5, maxUnits - 1} {
		l = append(l, to(k, api.AskWrite, 0, 2, "a"), to(k, api.AskFill, 0, 4, "b"), to(k, api.AskSeal, 3, 0, ""), to(k, api.AskTrim, 3, 3, ""), to(k, api.AskWrite, 3, 3, ""))
		names = append(names, slices.Repeat([]string{unitName(k)}, 5)...)
	}
	l = append(l, nextOf(0), nextOf(0), startOf(1, 9), nextOf(1), startOf(2, 0))
	names = append(names, slices.Repeat([]string{"the sequencer"}, 5)...)
	l = append(l, changeOf(of(1, []int{0, 1, 7})), markOf(0, 1, 0), changeOf(of(2, []int{1})), markOf(9, 8, 7))
	return l, append(names, slices.Repeat([]string{"the layout"}, 4)...)
}

// P14.2, P14.4: who is deaf is told nothing, and the nodes do it, just once, and just as if it were heard.
func TestDeaf(t *testing.T) {
	b := made(t, of(0, []int{0, 1}), 4)
	l, names := effects()
	for i, a := range l {
		expectChanged(t, b.n, func() { expectNone(t, b.h, a, api.Deaf) }, names[i])
		b.m.nodes.Do(a)
		b.same()
	}
	for range 5 {
		expectNone(t, b.h, nextOf(2), api.Deaf)
	}
	expectHeard(t, b.h, nextOf(2), number(5, 2))
}

// P14.2, P14.4: what is lost, by that fate or by one that is none, changes no node, is not held, and is never done.
func TestLost(t *testing.T) {
	l, _ := effects()
	for _, waits := range []int{0, 1, 3} {
		for _, fate := range others {
			b := made(t, of(0, []int{0, 1}), 4)
			for at := range waits {
				b.ask(writeOf(6, at), api.Held)
			}
			for _, a := range l {
				expectNone(t, b.h, a, fate)
			}
			b.same()
			for k := range waits + 1 {
				if got := b.do(0); got != (k < waits) {
					t.Errorf("fate %d: the %d-th Do of %d that are held: %v", fate, k, waits, got)
				}
			}
			b.same()
			expectHeard(t, b.h, nextOf(0), number(0, 0))
		}
	}
}

// P14.2, P14.3, P14.4: what is held is done by no one before its Do, by that one once, and never again.
func TestHeld(t *testing.T) {
	b := made(t, of(0, []int{0, 1}), 4)
	l, names := effects()
	expectIdle(t, b.n, func() {
		for i, a := range l {
			expectNone(t, b.h, a, api.Held)
			expectHeld(t, b.h, l[:i+1]...)
		}
	})
	for i, a := range l {
		expectChanged(t, b.n, func() {
			if !b.h.Do(0) {
				t.Errorf("%s: it was held, and Do tells false", asked(a))
			}
		}, names[i])
		b.m.nodes.Do(a)
		expectHeld(t, b.h, l[i+1:]...)
	}
	b.same()
	for range 3 {
		if b.do(0) || b.drop(0) {
			t.Errorf("all was done, and there is one more")
		}
	}
	b.same()
}

// P14.2: all fields of a question that is held stay as they are, whatever its kind asks.
func TestHeldFields(t *testing.T) {
	for _, kind := range slices.Concat(kinds, foreign) {
		b := made(t, of(0, []int{0, 1}), 2)
		for _, a := range []api.Ask{
			{Kind: kind}, full(kind, 5), full(kind, 0), {Kind: kind, Unit: math.MaxInt, Epoch: math.MinInt, Page: math.MaxInt, Size: math.MinInt, N: math.MaxInt, Data: longer, P: of(math.MinInt, nil, []int{})},
			{Kind: kind, Unit: -1, Epoch: -1, Page: -1, Size: -1, N: -1, Data: "\x00\xff\n", P: of(-1)}, {Kind: kind, P: api.Projection{Chains: slices.Repeat([][]int{{1, 2}}, 300)}},
		} {
			b.ask(a, api.Held)
			b.same()
		}
		for _, k := range []int{3, 0, 1} {
			b.do(k)
			b.drop(k)
			b.same()
		}
	}
}

// P14.3: what was held is done by the nodes as they are then, not as they were when it came.
func TestAsTheyAreThen(t *testing.T) {
	b := made(t, of(0, []int{0, 1}), 2)
	hold := func(l ...api.Ask) {
		for _, a := range l {
			b.ask(a, api.Held)
		}
	}
	hold(to(3, api.AskWrite, 0, 0, "held"), to(3, api.AskWrite, 0, 1, "late"), to(3, api.AskWrite, 0, 2, "last"), nextOf(0), changeOf(of(1, []int{0, 1, 5})), markOf(1, 2, 3))
	b.ask(to(3, api.AskWrite, 0, 0, "first"), api.Heard)
	expectIdle(t, b.n, func() { b.do(0) })
	b.upset(func(n *rpc.Nodes) { n.Unit(3).Crash() })
	expectIdle(t, b.n, func() { b.do(0) })
	b.upset(func(n *rpc.Nodes) { n.Unit(3).Start() })
	expectChanged(t, b.n, func() { b.do(0) }, unitName(3))
	expectHeard(t, b.h, to(3, api.AskRead, 0, 0, ""), api.Answer{Data: "first"})
	expectHeard(t, b.h, to(3, api.AskRead, 0, 1, ""), code(api.ErrUnwrit))
	expectHeard(t, b.h, to(3, api.AskRead, 0, 2, ""), api.Answer{Data: "last"})
	b.upset(func(n *rpc.Nodes) { n.Order().Crash() })
	expectIdle(t, b.n, func() { b.do(0) })
	b.ask(changeOf(of(1, []int{1, 4})), api.Heard)
	expectIdle(t, b.n, func() { b.do(0) })
	b.ask(markOf(7, 8, 2), api.Deaf)
	expectChanged(t, b.n, func() { b.do(0) }, "the layout")
	b.same()

	hold(to(3, api.AskFill, 4, 9, ""), startOf(1, 6), to(8, api.AskWrite, 3, 0, "elder"), nextOf(1))
	expectIdle(t, b.n, func() { b.do(0) })
	b.ask(to(8, api.AskSeal, 4, 0, ""), api.Deaf)
	expectIdle(t, b.n, func() { b.do(1) })
	expectChanged(t, b.n, func() { b.do(0) }, "the sequencer")
	expectChanged(t, b.n, func() { b.do(0) }, "the sequencer")
	expectHeard(t, b.h, nextOf(1), number(7, 1))
	expectHeld(t, b.h)
}

// P14.3, P14.4: what was dropped is never done; what is held behind it moves up, and is done just so.
func TestDropped(t *testing.T) {
	l, _ := effects()
	for k := range l {
		b := made(t, of(0, []int{0, 1}), 4)
		for _, a := range l {
			b.ask(a, api.Held)
		}
		expectIdle(t, b.n, func() {
			if !b.drop(k) {
				t.Errorf("the %d-th is held, and Drop tells false", k)
			}
		})
		expectHeld(t, b.h, slices.Concat(l[:k], l[k+1:])...)
		for i := range len(l) - 1 {
			b.do(0)
			expectHeld(t, b.h, slices.Concat(l[:k], l[k+1:])[i+1:]...)
		}
		b.same()
		if b.do(0) || b.drop(0) {
			t.Errorf("all was done or dropped, and there is one more")
		}
		b.same()
	}
	b := made(t, of(0, []int{0, 1}), 4)
	expectIdle(t, b.n, func() {
		for range 3 {
			for _, a := range l {
				b.ask(a, api.Held)
			}
			for k := range l {
				b.drop([]int{0, len(l) - 1 - k}[k%2])
			}
			expectHeld(t, b.h)
		}
	})
	b.same()
}

// P14.3: of none, one, two, MaxHeld less one and MaxHeld that are held: the first, the last, and all that are none
func TestEdges(t *testing.T) {
	for _, n := range []int{0, 1, 2, maxHeld - 1, maxHeld} {
		for _, k := range append([]int{0, 1, n / 2, n - 2, n - 1, n, n + 1}, far...) {
			for _, done := range []int{0, 1} {
				b := made(t, of(0, []int{0, 1}), maxPages)
				for at := range n {
					b.ask(writeOf(4, at), api.Held)
				}
				end, there := []func(int) bool{b.drop, b.do}[done], 0 <= k && k < n
				var changed []string
				if there && done == 1 {
					changed = []string{unitName(4)}
				}
				expectChanged(t, b.n, func() {
					if got := end(k); got != there {
						t.Errorf("the %d-th of %d: %v", k, n, got)
					}
				}, changed...)
				if there && (b.n.Unit(4).Pages().Kind(k) == api.Written) != (done == 1) {
					t.Errorf("the %d-th of %d: page %d is of kind %d", k, n, k, b.n.Unit(4).Pages().Kind(k))
				}
				b.same()
				expectHeard(t, b.h, nextOf(0), number(0, 0))
				b.ask(nextOf(0), api.Held)
				b.sameHeld()
			}
		}
	}
}

// P14.2, P14.4: MaxHeld are held, and one more is lost, and stays so; other fates are as ever.
func TestFull(t *testing.T) {
	for more := range 4 {
		b := made(t, of(0, []int{0, 1}), maxPages)
		for at := range maxHeld + more {
			expectNone(t, b.h, writeOf(2, at), api.Held)
			if got := len(b.h.Held()); got != min(at+1, maxHeld) {
				t.Errorf("%d were to be held, and %d are", at+1, got)
			}
			b.m.ask(writeOf(2, at), api.Held)
		}
		b.same()
		expectHeard(t, b.h, writeOf(3, 1), code(api.OK))
		expectNone(t, b.h, writeOf(3, 2), api.Deaf)
		expectNone(t, b.h, writeOf(3, 3), api.Lost)
		expectNone(t, b.h, writeOf(3, 4), api.Held)
		for k := range maxHeld {
			if !b.h.Do(0) || b.n.Unit(2).Pages().Used() != k+1 {
				t.Errorf("%d pages are written behind %d that were done", b.n.Unit(2).Pages().Used(), k+1)
			}
		}
		if b.h.Do(0) || len(b.h.Held()) != 0 || b.n.Unit(2).Pages().Tail() != maxHeld || b.n.Unit(3).Pages().Used() != 2 {
			t.Errorf("one that was lost is done: pages %d, %d", b.n.Unit(2).Pages().Tail(), b.n.Unit(3).Pages().Used())
		}
	}
}

// P14.2, P14.3: with MaxHeld held, there is room for just one again behind each Do and each Drop, of whichever; what comes is behind all others.
func TestRoomAgain(t *testing.T) {
	for _, k := range []int{0, 1, maxHeld / 2, maxHeld - 2, maxHeld - 1} {
		b := made(t, of(0, []int{0, 1}), maxPages)
		for at := range maxHeld {
			b.ask(writeOf(1, at), api.Held)
		}
		for i := range 3 * maxHeld {
			b.ask(full(api.AskWrite, i), api.Held)
			if end := []func(int) bool{b.do, b.drop}[i%3%2]; !end(k) {
				t.Errorf("the %d-th is held, and is none", k)
			}
			if got := len(b.h.Held()); got != maxHeld-1 {
				t.Errorf("%d are held behind one that is no longer", got)
			}
			b.ask(to(i%maxUnits, api.AskFill, 0, i%80, fmt.Sprint(i)), api.Held)
			b.ask(nextOf(0), api.Held)
			b.sameHeld()
		}
		b.same()
		expectHeard(t, b.h, nextOf(0), number(0, 0))
	}
}

// P14.2, P14.3: those that stay are in the order in which they came, whichever were done or dropped: all ways in which five may go.
func TestOrderStays(t *testing.T) {
	const n = 5
	for way := range 120 * 32 {
		h := hand.New(begun(t, of(0, []int{0}), n))
		var waits, done []int
		for at := range n {
			h.Ask(writeOf(0, at), api.Held)
			waits = append(waits, at)
		}
		for left, rest, ends := n, way/32, way%32; left > 0; left, rest, ends = left-1, rest/left, ends/2 {
			k := rest % left
			if ends%2 == 0 {
				h.Do(k)
				done = append(done, waits[k])
			} else {
				h.Drop(k)
			}
			waits = slices.Delete(waits, k, k+1)
			if got := pagesOf(h.Held()); !slices.Equal(got, waits) {
				t.Fatalf("way %d: %v are held, not %v", way, got, waits)
			}
		}
		for at := range n {
			if written := h.Nodes().Unit(0).Pages().Kind(at) == api.Written; written != slices.Contains(done, at) {
				t.Fatalf("way %d: the %d-th: done %v", way, at, written)
			}
		}
	}
}

func pagesOf(l []api.Ask) []int {
	var pages []int
	for _, a := range l {
		pages = append(pages, a.Page)
	}
	return pages
}

// P14.2, P14.4: one question that is asked often is as many questions: each has its own fate, and each is done once at most.
func TestTwins(t *testing.T) {
	b := made(t, of(0, []int{0, 1}), 4)
	want := 0
	for i := range 8 {
		for _, fate := range slices.Concat(fates, []int{api.Held}) {
			b.ask(nextOf(0), fate)
		}
		expectHeld(t, b.h, slices.Repeat([]api.Ask{nextOf(0)}, i+2)...)
		want += 2
		if i%2 == 0 {
			b.drop(i / 2)
		} else {
			b.do(i / 3)
			want++
		}
		b.same()
		if got := b.n.Order().Do(tailOf(0)).N; got != want {
			t.Errorf("%d were done, not %d", got, want)
		}
	}
	for b.do(0) {
		want++
	}
	expectHeard(t, b.h, nextOf(0), number(want, 0))
	if want != 28 {
		t.Errorf("%d were done", want)
	}
}

// P14.4: of questions that may all be told apart, those are done that were heard, deaf, or held and done, each once.
func TestOnce(t *testing.T) {
	for turn := range 12 {
		b := made(t, of(0, []int{0, 1}), maxPages)
		done := map[int]int{}
		for at := range 80 {
			fate := fates[(at*at+turn*at+turn)%len(fates)]
			b.ask(writeOf(7, at), fate)
			if fate == api.Heard || fate == api.Deaf {
				done[at] = 1
			}
			l := pagesOf(b.h.Held())
			if k := at % 5; at%4 == turn%4 && b.do(k) {
				done[l[k]]++
			} else if at%7 == 3 {
				b.drop(k)
			}
		}
		for at := range 80 {
			if written := b.n.Unit(7).Pages().Kind(at) == api.Written; written != (done[at] == 1) || done[at] > 1 {
				t.Errorf("turn %d: the question of page %d was done %d times, and it is written: %v", turn, at, done[at], written)
			}
		}
		b.same()
	}
}

// P14.1: all calls of nil, and of one over nil, whatever was called before
func TestNil(t *testing.T) {
	noForm, _ := rpc.New(api.Projection{}, 1)
	noRoom, _ := rpc.New(of(0, []int{0}), 0)
	for i, h := range []*hand.Hand{nil, hand.New(nil), hand.New(noForm), hand.New(noRoom)} {
		calm := func() {
			t.Helper()
			if h.Nodes() != nil || len(h.Held()) != 0 {
				t.Errorf("%d: of nil: %d are held", i, len(h.Held()))
			}
			for _, k := range append([]int{0, 1, 2, maxHeld - 1}, far...) {
				if h.Do(k) || h.Drop(k) {
					t.Errorf("%d: of nil: there is a question %d", i, k)
				}
			}
		}
		calm()
		for _, fate := range append(slices.Clone(fates), others...) {
			for _, kind := range slices.Concat(kinds, foreign) {
				expectNone(t, h, full(kind, 3), fate)
				expectNone(t, h, api.Ask{Kind: kind}, fate)
				expectNone(t, h, api.Ask{Kind: kind, Unit: math.MinInt, Epoch: math.MaxInt, Page: math.MinInt, Data: longer, P: of(math.MaxInt, nil)}, fate)
			}
			calm()
		}
		for range maxHeld + 2 {
			expectNone(t, h, nextOf(0), api.Held)
		}
		calm()
	}
}

// P14.2: asking what is held changes nothing.
func TestAsking(t *testing.T) {
	b := made(t, of(5, []int{0, 1}, []int{2}), 3)
	b.ask(to(4, api.AskWrite, 0, 6, "a"), api.Deaf)
	for i := range 4 {
		b.ask(full(kinds[i], i), api.Held)
		expectIdle(t, b.n, func() {
			for range 3 {
				b.h.Held()
				b.h.Nodes()
				b.same()
			}
		})
	}
}
