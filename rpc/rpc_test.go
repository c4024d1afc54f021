package rpc_test

import (
	"math"
	"reflect"
	"slices"
	"strings"
	"testing"

	"escheat/api"
	"escheat/layout"
	"escheat/order"
	"escheat/rpc"
	"escheat/unit"
)

// longer is a text of one byte too many.
var longer = strings.Repeat("x", maxRecord+1)

// P13.2: the chapter's example
func TestExample(t *testing.T) {
	n := begun(t, of(0, []int{0, 1}, []int{2, 3}), 4)
	expect(t, n, nextOf(0), number(0, 0))
}

// P13.1: of each projection that is good and of each room that is one: how new nodes are
func TestNew(t *testing.T) {
	for _, p := range []api.Projection{
		of(0, []int{0}), of(1, []int{15}), of(4, []int{0, 1}, []int{15}), of(maxEpoch-1, []int{7}), of(maxEpoch, []int{6, 5}, []int{7}),
		of(258, []int{3, 2, 1, 0}, []int{7, 6, 5, 4}, []int{11, 10, 9, 8}, []int{15, 14, 13, 12}),
	} {
		for _, room := range []int{1, 2, 255, 256, maxPages - 1, maxPages} {
			n := begun(t, p, room)
			for k := range maxUnits {
				if v := showUnit(n.Unit(k)); v != (unitShown{}) {
					t.Errorf("New(%v, %d): unit %d is %v", p, room, k, v)
				}
			}
			if o := n.Order(); o.Epoch() != p.Epoch || !o.Knows() {
				t.Errorf("New(%v, %d): the sequencer is in epoch %d, and knows %v", p, room, o.Epoch(), o.Knows())
			}
			var units []int
			for _, chain := range p.Chains {
				units = append(units, chain...)
			}
			slices.Sort(units)
			if l := n.Layout(); !reflect.DeepEqual(l.Now(), p) || !slices.Equal(l.Used(), units) {
				t.Errorf("New(%v, %d): %v counts, %v were used", p, room, l.Now(), l.Used())
			}
			expectIdle(t, n, tailOf(p.Epoch), number(0, p.Epoch))
			expectIdle(t, n, lookOf(), api.Answer{P: p, Mark: -1, N: -1})
			expectIdle(t, n, startOf(p.Epoch, 0), codeIn(api.ErrSealed, p.Epoch))
			for i := range 3 {
				expectAlone(t, n, nextOf(p.Epoch), number(i, p.Epoch))
			}
		}
	}
}

// P13.1: the sequencer knows the epoch of the projection, and none about it.
func TestNewEpochs(t *testing.T) {
	for _, epoch := range []int{0, 1, 2, 255, 256, 65536, maxEpoch - 1, maxEpoch} {
		n := begun(t, of(epoch, []int{3}), 1)
		for _, other := range append([]int{epoch - 1, epoch + 1}, outside...) {
			if other != epoch {
				expectIdle(t, n, nextOf(other), codeIn(api.ErrSealed, epoch))
				expectIdle(t, n, tailOf(other), codeIn(api.ErrSealed, epoch))
			}
		}
		expectIdle(t, n, startOf(epoch, 5), codeIn(api.ErrSealed, epoch))
		expectIdle(t, n, startOf(epoch-1, 5), codeIn(api.ErrSealed, epoch))
		expect(t, n, nextOf(epoch), number(0, epoch))
		expect(t, n, startOf(epoch+1, 7), codeIn(api.OK, epoch+1))
		expect(t, n, nextOf(epoch+1), number(7, epoch+1))
	}
}

// bads are projections that are not good, those just outside the edges among them.
func bads() []api.Projection {
	l := []api.Projection{
		{}, {Chains: [][]int{}}, of(0), of(1, nil), of(1, []int{}), of(1, []int{0}, nil), of(1, nil, []int{0}), of(1, []int{0}, []int{}, []int{1}),
		of(1, []int{-1}), of(1, []int{16}), of(1, []int{0, 16}), of(1, []int{0}, []int{-1}), of(1, []int{0, 1, 256}), of(1, []int{math.MaxInt}, []int{math.MinInt}),
		of(1, []int{1, 1}), of(1, []int{1}, []int{2, 1}), of(1, []int{0, 1, 2, 0}), of(1, []int{3}, []int{4}, []int{5}, []int{3}),
		of(1, []int{0, 1, 2, 3, 4}), of(1, []int{9}, []int{4, 5, 6, 7, 8}), of(1, []int{0}, []int{1}, []int{2}, []int{3}, []int{4}),
		of(1, slices.Repeat([]int{5}, 1000)), of(1, slices.Repeat([][]int{{1}}, 257)...), of(1, slices.Repeat([][]int{nil}, 70000)...),
		of(maxEpoch+1, []int{0}), of(1<<40, []int{0}),
	}
	for _, epoch := range outside {
		if epoch < 0 || epoch > maxEpoch {
			l = append(l, of(epoch, []int{0}))
		}
	}
	return l
}

// noRooms are rooms that are none.
var noRooms = append([]int{0, -64, -maxPages, maxPages + 1, maxPages + 2, 2 * maxPages}, math.MinInt, math.MinInt+1, -1<<32+1, -1, 1<<16, 1<<32+1, math.MaxInt-1, math.MaxInt)

// P13.1: layout.New's error, then unit.New's; nothing is told beside one.
func TestNewRefused(t *testing.T) {
	refused := func(p api.Projection, room int, want api.Errno) {
		t.Helper()
		if n, err := rpc.New(p, room); n != nil || err != want {
			t.Errorf("New(%s, %d): %v, not %v", ask(changeOf(p)), room, err, want)
		}
	}
	for _, p := range bads() {
		for _, room := range append([]int{1, 2, maxPages}, noRooms...) {
			refused(p, room, api.ErrForm)
		}
	}
	for _, room := range noRooms {
		for _, p := range []api.Projection{of(0, []int{0}), of(maxEpoch, []int{15, 0}, []int{3}), of(4, []int{0, 1, 2, 3}, []int{4}, []int{5}, []int{6})} {
			refused(p, room, api.ErrArg)
		}
	}
}

// P13.1: all calls of nil, and of what New told beside an error
func TestNil(t *testing.T) {
	noForm, _ := rpc.New(api.Projection{}, 1)
	noRoom, _ := rpc.New(of(0, []int{0}), 0)
	for _, n := range []*rpc.Nodes{nil, noForm, noRoom} {
		for range 2 {
			for _, kind := range slices.Concat(kinds, foreign) {
				for _, v := range append([]int{0, 1, maxUnits - 1}, outside...) {
					full := api.Ask{Kind: kind, Unit: v, Epoch: v, Page: v, Size: v, N: v, Data: "a", P: of(v, []int{0})}
					expect(t, n, full, code(api.ErrArg))
				}
				expect(t, n, api.Ask{Kind: kind, Page: 1, Size: 1, N: 1, P: of(0, []int{0})}, code(api.ErrArg))
				expect(t, n, api.Ask{Kind: kind}, code(api.ErrArg))
			}
			for _, k := range append([]int{0, 1, maxUnits - 1}, outside...) {
				if n.Unit(k) != nil {
					t.Errorf("of nil: Unit(%d) is one", k)
				}
			}
			if n.Order() != nil || n.Layout() != nil {
				t.Errorf("of nil: %v, %v", n.Order(), n.Layout())
			}
		}
	}
}

// P13.1: Unit tells one of 0 to MaxUnits - 1, the same each time, and each another one; there is no other.
func TestUnit(t *testing.T) {
	n := begun(t, of(3, []int{4, 5}, []int{0}), 2)
	met := map[*unit.Unit]int{}
	for k := range maxUnits {
		u := n.Unit(k)
		if u == nil || u.Pages() == nil {
			t.Fatalf("Unit(%d) is none", k)
		}
		if other, again := met[u]; again {
			t.Errorf("Unit(%d) is Unit(%d)", k, other)
		}
		met[u] = k
	}
	for range 2 {
		for _, k := range outside {
			if n.Unit(k) != nil {
				t.Errorf("Unit(%d) is one", k)
			}
		}
		for u, k := range met {
			if n.Unit(k) != u {
				t.Errorf("Unit(%d) is another one than it was", k)
			}
		}
	}
}

// P13.1: each unit has pages of its own, and so many of them may be taken as New was told.
func TestRooms(t *testing.T) {
	for _, room := range []int{1, 2, 3, 100, maxPages - 1, maxPages} {
		n := begun(t, of(0, []int{0, 1}), room)
		for k := range maxUnits {
			for at := range room {
				expect(t, n, to(k, []int{api.AskWrite, api.AskFill}[at%2], 0, at, "a"), code(api.OK))
			}
			want := api.ErrFull
			if room == maxPages {
				want = api.ErrArg
			}
			expectIdle(t, n, to(k, api.AskWrite, 0, room, "a"), code(want))
			expectIdle(t, n, to(k, api.AskFill, 0, room, ""), code(want))
			if used := n.Unit(k).Pages().Used(); used != room {
				t.Errorf("room %d: %d pages of unit %d are taken", room, used, k)
			}
		}
	}
}

// P13.1, P13.2: what is done to a unit itself is seen by Do, and what Do does is seen by it.
func TestUnitItself(t *testing.T) {
	for k := range maxUnits {
		n := begun(t, of(2, []int{0, 1}), 4)
		u := n.Unit(k)
		expectAlone(t, n, to(k, api.AskWrite, 0, 1, "a"), code(api.OK))
		if got := u.Do(to(0, api.AskRead, 0, 1, "")); got.Data != "a" {
			t.Errorf("unit %d does not see what Do wrote: %s", k, told(got))
		}
		u.Do(to(0, api.AskWrite, 0, 2, "b"))
		u.Pages().Write(3, "c")
		expectIdle(t, n, to(k, api.AskRead, 0, 2, ""), api.Answer{Data: "b"})
		expectIdle(t, n, to(k, api.AskRead, 0, 3, ""), api.Answer{Data: "c"})
		expectAlone(t, n, to(k, api.AskSeal, 5, 0, ""), number(4, 5))
		if u.Epoch() != 5 {
			t.Errorf("unit %d does not see that Do sealed it: epoch %d", k, u.Epoch())
		}
		u.Do(to(0, api.AskSeal, 6, 0, ""))
		expectIdle(t, n, to(k, api.AskRead, 5, 1, ""), codeIn(api.ErrSealed, 6))
		u.Crash()
		for _, kind := range ofUnits {
			expectIdle(t, n, to(k, kind, 7, 0, "d"), code(api.ErrDown))
			for other := range maxUnits {
				if other != k {
					expectIdle(t, n, to(other, api.AskRead, 0, 1, ""), code(api.ErrUnwrit))
				}
			}
		}
		if n.Unit(k) != u || !n.Unit(k).Down() {
			t.Errorf("unit %d is another one behind its crash", k)
		}
		u.Start()
		expectAlone(t, n, to(k, api.AskTrim, 6, 2, ""), codeIn(api.OK, 6))
		expectIdle(t, n, to(k, api.AskRead, 6, 3, ""), api.Answer{Data: "c", Epoch: 6})
		if u.Pages().Edge() != 2 || n.Unit(k) != u {
			t.Errorf("unit %d does not see what Do trimmed", k)
		}
	}
}

// P13.1, P13.2: what is done to the sequencer itself is seen by Do, and what Do does is seen by it.
func TestOrderItself(t *testing.T) {
	n := begun(t, of(2, []int{0, 1}), 4)
	o := n.Order()
	expectAlone(t, n, nextOf(2), number(0, 2))
	if got := o.Do(nextOf(2)); !reflect.DeepEqual(got, number(1, 2)) {
		t.Errorf("the sequencer does not see what Do was told: %s", told(got))
	}
	expectAlone(t, n, nextOf(2), number(2, 2))
	for epoch := 3; epoch < 6; epoch++ {
		o.Crash()
		if n.Order() != o || n.Order().Knows() {
			t.Errorf("the sequencer is another one behind its crash")
		}
		expectIdle(t, n, nextOf(epoch-1), codeIn(api.ErrNoOrder, epoch-1))
		expectIdle(t, n, tailOf(epoch-1), codeIn(api.ErrNoOrder, epoch-1))
		expectIdle(t, n, startOf(epoch-1, 1), codeIn(api.ErrSealed, epoch-1))
		if epoch%2 == 0 {
			o.Do(startOf(epoch, 10*epoch))
		} else {
			expectAlone(t, n, startOf(epoch, 10*epoch), codeIn(api.OK, epoch))
		}
		if !o.Knows() || o.Epoch() != epoch {
			t.Errorf("the sequencer does not see that it was started: epoch %d", o.Epoch())
		}
		expectAlone(t, n, nextOf(epoch), number(10*epoch, epoch))
	}
}

// P13.1, P13.2: what is done to the layout itself is seen by Do, and what Do does is seen by it.
func TestLayoutItself(t *testing.T) {
	n := begun(t, of(0, []int{0, 1}), 4)
	l := n.Layout()
	for epoch := 1; epoch < 7; epoch += 2 {
		p, q := of(epoch, []int{0, 1, epoch + 1}), of(epoch+1, []int{0, 1, epoch + 2})
		expectAlone(t, n, changeOf(p), api.Answer{P: p})
		if !reflect.DeepEqual(l.Now(), p) || !slices.Contains(l.Used(), epoch+1) {
			t.Errorf("the layout does not see what Do changed: %v", l.Now())
		}
		l.Do(changeOf(q))
		expectIdle(t, n, changeOf(q), api.Answer{Code: int(api.ErrNext), P: q})
		expectAlone(t, n, markOf(4, 5, epoch), marked(4, 5, epoch))
		if got := l.Do(lookOf()); !reflect.DeepEqual(got, api.Answer{P: q, Mark: 4, Size: 5, N: epoch}) {
			t.Errorf("the layout does not see what Do marked: %s", told(got))
		}
		l.Do(markOf(6, 7, epoch+1))
		expectIdle(t, n, lookOf(), api.Answer{P: q, Mark: 6, Size: 7, N: epoch + 1})
		if n.Layout() != l {
			t.Errorf("the layout is another one than it was")
		}
	}
}

// P13.2, P13.3: a question of each kind that goes to a unit, to each unit; no other node is changed.
func TestEachUnit(t *testing.T) {
	n := begun(t, of(7, []int{0, 1}, []int{2}), 3)
	for k := range maxUnits {
		text := unitName(k)
		expectAlone(t, n, to(k, api.AskWrite, 0, 2, text), code(api.OK))
		expectAlone(t, n, to(k, api.AskFill, 0, 4, text), code(api.OK))
		expectIdle(t, n, to(k, api.AskRead, 0, 2, ""), api.Answer{Data: text})
		expectIdle(t, n, to(k, api.AskRead, 0, 4, ""), code(api.ErrJunk))
		expectAlone(t, n, to(k, api.AskSeal, k+1, 0, ""), number(5, k+1))
		expectAlone(t, n, to(k, api.AskTrim, k+1, 1, ""), codeIn(api.OK, k+1))
	}
	for k := range maxUnits {
		expectIdle(t, n, to(k, api.AskRead, k+1, 2, ""), api.Answer{Data: unitName(k), Epoch: k + 1})
		expectIdle(t, n, to(k, api.AskRead, k, 2, ""), codeIn(api.ErrSealed, k+1))
		expectAlone(t, n, to(k, api.AskTrim, k+1, 3, ""), codeIn(api.OK, k+1))
		expectIdle(t, n, to(k, api.AskRead, k+1, 2, ""), codeIn(api.ErrTrimmed, k+1))
	}
}

// P13.2: questions of each kind that goes to a unit, to no unit
func TestNoUnit(t *testing.T) {
	n := begun(t, of(0, []int{0, 1}, []int{15}), 3)
	for range 2 {
		for _, kind := range ofUnits {
			for _, k := range outside {
				for _, epoch := range []int{0, 9, -1} {
					expectIdle(t, n, to(k, kind, epoch, 1, "a"), code(api.ErrArg))
				}
				expectIdle(t, n, api.Ask{Kind: kind, Unit: k, Epoch: 9, Page: 1, Size: 2, N: 3, Data: longer, P: of(1, []int{0}, []int{15})}, code(api.ErrArg))
			}
		}
		for k := range maxUnits {
			n.Unit(k).Do(to(k, api.AskSeal, 5, 0, ""))
			n.Unit(k).Crash()
		}
	}
}

// P13.2: to the sequencer and to the layout it is one which unit a question names.
func TestAnyUnitOfOthers(t *testing.T) {
	for _, k := range append([]int{0, 1, 7, maxUnits - 1}, outside...) {
		n := begun(t, of(3, []int{0, 1}, []int{2}), 3)
		next := of(4, []int{1, 5}, []int{2})
		for _, x := range []struct {
			a    api.Ask
			want api.Answer
		}{
			{nextOf(3), number(0, 3)}, {nextOf(3), number(1, 3)}, {startOf(9, 30), codeIn(api.OK, 9)}, {nextOf(9), number(30, 9)},
			{markOf(8, 80, 2), marked(8, 80, 2)}, {changeOf(next), api.Answer{P: next}},
		} {
			x.a.Unit = k
			expectAlone(t, n, x.a, x.want)
		}
		for _, x := range []struct {
			a    api.Ask
			want api.Answer
		}{
			{tailOf(9), number(31, 9)}, {nextOf(3), codeIn(api.ErrSealed, 9)}, {startOf(3, 4), codeIn(api.ErrSealed, 9)},
			{lookOf(), api.Answer{P: next, Mark: 8, Size: 80, N: 2}}, {changeOf(next), api.Answer{Code: int(api.ErrNext), P: next}},
			{markOf(-1, 80, 3), code(api.ErrArg)}, {markOf(7, 70, 1), marked(8, 80, 2)},
		} {
			x.a.Unit = k
			expectIdle(t, n, x.a, x.want)
		}
	}
}

// P13.2: kinds of no one, with anything in the other fields
func TestForeignKinds(t *testing.T) {
	for _, epoch := range []int{0, 6} {
		n := begun(t, of(epoch, []int{0, 1}, []int{2}), 3)
		for range 2 {
			for _, kind := range foreign {
				expectIdle(t, n, api.Ask{Kind: kind}, code(api.ErrArg))
				for _, k := range []int{0, 2, maxUnits - 1, -1, maxUnits, math.MinInt, math.MaxInt} {
					next := of(epoch+1, []int{1}, []int{2, 3})
					expectIdle(t, n, api.Ask{Kind: kind, Unit: k, Epoch: epoch + 1, Page: 1, Size: 2, N: 3, Data: "a", P: next}, code(api.ErrArg))
				}
			}
			for k := range maxUnits {
				n.Unit(k).Crash()
			}
			n.Order().Crash()
		}
	}
}

// P13.2: each Code of each kind, as the node tells it; what is told with an error, and what changes nothing, leaves all nodes as they were.
func TestCodes(t *testing.T) {
	for _, k := range []int{0, 1, 9, maxUnits - 1} {
		first, next := of(2, []int{0, 1}, []int{15}), of(3, []int{1, 4}, []int{15})
		n := begun(t, first, 3)
		for _, x := range []struct {
			a    api.Ask
			want api.Answer
		}{
			{to(k, api.AskWrite, 0, 3, "a"), code(api.OK)}, {to(k, api.AskFill, 0, 4, ""), code(api.OK)}, {to(k, api.AskTrim, 0, 2, ""), code(api.OK)},
			{to(k, api.AskSeal, 6, 0, ""), number(5, 6)}, {to(k, api.AskWrite, 6, maxPages-1, ""), codeIn(api.OK, 6)},
			{startOf(5, maxAddr-1), codeIn(api.OK, 5)}, {nextOf(5), number(maxAddr-1, 5)}, {markOf(7, 8, 9), marked(7, 8, 9)}, {changeOf(next), api.Answer{P: next}},
		} {
			expectAlone(t, n, x.a, x.want)
		}
		for _, x := range []struct {
			a    api.Ask
			want api.Answer
		}{
			{to(k, api.AskWrite, 5, 9, "a"), codeIn(api.ErrSealed, 6)}, {to(k, api.AskWrite, 6, maxPages, "a"), codeIn(api.ErrArg, 6)}, {to(k, api.AskWrite, 6, 9, longer), codeIn(api.ErrLong, 6)},
			{to(k, api.AskWrite, 6, 1, "a"), codeIn(api.ErrTrimmed, 6)}, {to(k, api.AskWrite, 6, 3, "a"), codeIn(api.ErrWritten, 6)}, {to(k, api.AskWrite, 6, 9, "a"), codeIn(api.ErrFull, 6)},
			{to(k, api.AskFill, 0, 9, ""), codeIn(api.ErrSealed, 6)}, {to(k, api.AskFill, 6, -1, ""), codeIn(api.ErrArg, 6)}, {to(k, api.AskFill, 6, 0, ""), codeIn(api.ErrTrimmed, 6)},
			{to(k, api.AskFill, 6, 3, ""), codeIn(api.ErrWritten, 6)}, {to(k, api.AskFill, 6, 9, ""), codeIn(api.ErrFull, 6)}, {to(k, api.AskFill, 7, 4, ""), codeIn(api.OK, 6)},
			{to(k, api.AskRead, 5, 3, ""), codeIn(api.ErrSealed, 6)}, {to(k, api.AskRead, 6, maxPages, ""), codeIn(api.ErrArg, 6)}, {to(k, api.AskRead, 6, 1, ""), codeIn(api.ErrTrimmed, 6)},
			{to(k, api.AskRead, 6, 9, ""), codeIn(api.ErrUnwrit, 6)}, {to(k, api.AskRead, 6, 4, ""), codeIn(api.ErrJunk, 6)}, {to(k, api.AskRead, 8, 3, ""), api.Answer{Data: "a", Epoch: 6}},
			{to(k, api.AskTrim, 5, 3, ""), codeIn(api.ErrSealed, 6)}, {to(k, api.AskTrim, 6, maxPages+1, ""), codeIn(api.ErrArg, 6)}, {to(k, api.AskTrim, 6, 1, ""), codeIn(api.OK, 6)},
			{to(k, api.AskSeal, 5, 0, ""), codeIn(api.ErrSealed, 6)}, {to(k, api.AskSeal, 6, 0, ""), number(maxPages, 6)},
			{nextOf(5), codeIn(api.ErrFull, 5)}, {nextOf(2), codeIn(api.ErrSealed, 5)}, {nextOf(6), codeIn(api.ErrSealed, 5)}, {tailOf(4), codeIn(api.ErrSealed, 5)}, {tailOf(5), number(maxAddr, 5)},
			{startOf(5, 0), codeIn(api.ErrSealed, 5)}, {startOf(6, maxAddr+1), codeIn(api.ErrArg, 5)}, {startOf(6, -1), codeIn(api.ErrArg, 5)},
			{lookOf(), api.Answer{P: next, Mark: 7, Size: 8, N: 9}}, {changeOf(first), api.Answer{Code: int(api.ErrNext), P: next}}, {changeOf(api.Projection{}), api.Answer{Code: int(api.ErrNext), P: next}},
			{changeOf(of(4, []int{1, 0}, []int{15})), api.Answer{Code: int(api.ErrNext), P: next}}, {markOf(maxAddr, 8, 10), code(api.ErrArg)}, {markOf(7, 0, 10), code(api.ErrArg)},
			{markOf(7, maxText+1, 10), code(api.ErrArg)}, {markOf(7, 8, maxAddr+1), code(api.ErrArg)}, {markOf(1, 2, 9), marked(7, 8, 9)},
		} {
			expectIdle(t, n, x.a, x.want)
		}
		n.Unit(k).Crash()
		n.Order().Crash()
		for _, kind := range ofUnits {
			expectIdle(t, n, to(k, kind, 7, 9, "b"), code(api.ErrDown))
		}
		expectIdle(t, n, nextOf(5), codeIn(api.ErrNoOrder, 5))
		expectIdle(t, n, tailOf(5), codeIn(api.ErrNoOrder, 5))
		expectIdle(t, n, lookOf(), api.Answer{P: next, Mark: 7, Size: 8, N: 9})
	}
}

// P13.3: a unit that crashes, starts, is sealed or is full changes no answer of another one.
func TestOneUnitAlone(t *testing.T) {
	for k := range maxUnits {
		b := made(t, of(0, []int{0, 1}, []int{2, 3}), 2)
		for other := range maxUnits {
			b.do(to(other, api.AskWrite, 0, other, unitName(other)))
		}
		b.do(to(k, api.AskSeal, 100, 0, ""))
		b.do(to(k, api.AskFill, 100, maxPages-1, ""))
		b.same()
		for range 2 {
			for other := range maxUnits {
				if other != k {
					expectIdle(t, b.n, to(other, api.AskRead, 0, other, ""), api.Answer{Data: unitName(other)})
					expectIdle(t, b.n, to(other, api.AskSeal, 0, 0, ""), number(other+1, 0))
				}
			}
			b.n.Unit(k).Crash()
			b.m.units[k].Crash()
		}
		for other := range maxUnits {
			if other != k {
				expectAlone(t, b.n, to(other, api.AskFill, 0, 20, ""), code(api.OK))
				b.m.do(to(other, api.AskFill, 0, 20, ""))
			}
		}
		b.same()
	}
}

// P13.1, P13.2: one question of each kind to each node, each ahead of each other one
func TestInAnyOrder(t *testing.T) {
	next := of(1, []int{1}, []int{2, 3})
	asks := []api.Ask{nextOf(0), tailOf(0), startOf(1, 9), lookOf(), changeOf(next), markOf(1, 2, 3), {}, {Kind: 12, Unit: 1}}
	for _, k := range []int{0, 1, maxUnits - 1, -1, maxUnits} {
		for _, kind := range ofUnits {
			asks = append(asks, to(k, kind, 0, 1, "a"), to(k, kind, 1, 0, "b"))
		}
	}
	for _, one := range asks {
		b := made(t, of(0, []int{0, 1}, []int{2}), 1)
		for _, other := range asks {
			b.do(one)
			b.do(other)
			b.same()
		}
	}
}

// P13.1: asking for the nodes changes none, and makes none.
func TestAsking(t *testing.T) {
	b := made(t, of(5, []int{0, 1}, []int{2}), 3)
	b.do(to(4, api.AskWrite, 0, 6, "a"))
	b.do(nextOf(5))
	b.do(markOf(1, 2, 3))
	var o *order.Order
	var l *layout.Layout
	for i := range 4 {
		for k := -1; k <= maxUnits; k++ {
			b.n.Unit(k)
		}
		if i > 0 && (b.n.Order() != o || b.n.Layout() != l) {
			t.Errorf("the sequencer or the layout is another one than it was")
		}
		o, l = b.n.Order(), b.n.Layout()
		b.same()
	}
}
