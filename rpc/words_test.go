package rpc_test

import (
	"fmt"
	"math"
	"reflect"
	"slices"
	"testing"

	"escheat/api"
	"escheat/layout"
	"escheat/order"
	"escheat/rpc"
	"escheat/unit"
)

// The words of the chapter, told in another way than the program's: nodes that were made one by one, each asked by itself.

const (
	maxUnits  = 16
	maxPages  = 4096
	maxRecord = 4096
	maxAddr   = 16384
	maxText   = 65536
	maxEpoch  = 2147483647
)

// outside are whole numbers that no unit has and that are no Kind.
var outside = []int{
	-1, -2, -16, 16, 17, 31, 32, 255, 256, 256 + 1, 256 + 6, 256 + 9, 65536 + 5, 1 << 31, 1<<32 + 1, 1<<32 + 3, -1 << 31, -1<<32 + 6, 1<<62 + 9, -1 << 62,
	math.MaxInt, math.MaxInt - 1, math.MinInt, math.MinInt + 1,
}

// The kinds by the node that they go to; foreign are those of no one.
var (
	ofUnits  = []int{api.AskWrite, api.AskFill, api.AskRead, api.AskTrim, api.AskSeal}
	ofOrder  = []int{api.AskNext, api.AskTail, api.AskStart}
	ofLayout = []int{api.AskLayout, api.AskChange, api.AskMark}
	ofOthers = slices.Concat(ofOrder, ofLayout)
	kinds    = slices.Concat(ofUnits, ofOthers)
	foreign  = slices.Concat([]int{0, 12, 13, 14, 15}, outside)
)

// model is all nodes by the words.
type model struct {
	units  []*unit.Unit
	order  *order.Order
	layout *layout.Layout
}

func modelOf(p api.Projection, room int) *model {
	m := &model{order: order.New()}
	for range maxUnits {
		u, _ := unit.New(room)
		m.units = append(m.units, u)
	}
	m.order.Do(startOf(p.Epoch, 0))
	m.layout, _ = layout.New(p)
	return m
}

func (m *model) do(a api.Ask) api.Answer {
	switch {
	case a.Kind < 1 || a.Kind > 11:
		return code(api.ErrArg)
	case a.Kind > 8:
		return m.layout.Do(a)
	case a.Kind > 5:
		return m.order.Do(a)
	}
	for k, u := range m.units {
		if k == a.Unit {
			return u.Do(a)
		}
	}
	return code(api.ErrArg)
}

// shown is all that nodes show without being changed.
type shown struct {
	units  [maxUnits]unitShown
	epoch  int
	knows  bool
	tail   api.Answer
	now    api.Projection
	used   []int
	layout api.Answer
}

// unitShown is what a unit shows; of its pages those that the tests ask for: what stood on another one would be in sums.
type unitShown struct {
	down  bool
	epoch int
	sums  [3]int
	kinds [32]int
	texts [32]string
}

func showUnit(u *unit.Unit) unitShown {
	p := u.Pages()
	v := unitShown{down: u.Down(), epoch: u.Epoch(), sums: [3]int{p.Tail(), p.Used(), p.Edge()}}
	for i := range v.kinds {
		at := i
		if i >= 24 {
			at = maxPages - 32 + i
		}
		v.kinds[i] = p.Kind(at)
		v.texts[i], _ = p.Read(at)
	}
	return v
}

func show(unitOf func(k int) *unit.Unit, o *order.Order, l *layout.Layout) shown {
	v := shown{epoch: o.Epoch(), knows: o.Knows(), tail: o.Do(tailOf(o.Epoch())), now: l.Now(), used: l.Used(), layout: l.Do(lookOf())}
	for k := range v.units {
		v.units[k] = showUnit(unitOf(k))
	}
	return v
}

func showNodes(n *rpc.Nodes) shown { return show(n.Unit, n.Order(), n.Layout()) }

// both is all nodes, and the same by the words; what is asked of both comes to the same.
type both struct {
	t testing.TB
	n *rpc.Nodes
	m *model
}

func made(t testing.TB, p api.Projection, room int) both {
	t.Helper()
	b := both{t, begun(t, p, room), modelOf(p, room)}
	b.same()
	return b
}

// do asks both, and answers what the nodes told.
func (b both) do(a api.Ask) api.Answer {
	b.t.Helper()
	want, got := b.m.do(a), b.n.Do(a)
	if !reflect.DeepEqual(got, want) {
		b.t.Errorf("%s: %s, not %s", ask(a), told(got), told(want))
	}
	return got
}

// same holds that all that the nodes show comes to the same.
func (b both) same() {
	b.t.Helper()
	got, want := showNodes(b.n), show(func(k int) *unit.Unit { return b.m.units[k] }, b.m.order, b.m.layout)
	if where := differ(got, want); len(where) > 0 {
		b.t.Errorf("%v are others than the words make", where)
	}
}

// differ are the names of the nodes that show another thing in v than in w.
func differ(v, w shown) []string {
	var l []string
	for k := range v.units {
		if v.units[k] != w.units[k] {
			l = append(l, unitName(k))
		}
	}
	if v.epoch != w.epoch || v.knows != w.knows || !reflect.DeepEqual(v.tail, w.tail) {
		l = append(l, "the sequencer")
	}
	if !reflect.DeepEqual(v.now, w.now) || !slices.Equal(v.used, w.used) || !reflect.DeepEqual(v.layout, w.layout) {
		l = append(l, "the layout")
	}
	return l
}

func unitName(k int) string { return fmt.Sprint("unit ", k) }

// nodeName is the name of the node that a question goes to; empty, if it goes to none.
func nodeName(a api.Ask) string {
	switch {
	case slices.Contains(ofOrder, a.Kind):
		return "the sequencer"
	case slices.Contains(ofLayout, a.Kind):
		return "the layout"
	case slices.Contains(ofUnits, a.Kind) && 0 <= a.Unit && a.Unit < maxUnits:
		return unitName(a.Unit)
	}
	return ""
}

// begun is the nodes of a projection that is good, and of a room that is one.
func begun(t testing.TB, p api.Projection, room int) *rpc.Nodes {
	t.Helper()
	n, err := rpc.New(p, room)
	if n == nil || err != api.OK {
		t.Fatalf("New(%v, %d): %v", p, room, err)
	}
	return n
}

func expect(t testing.TB, n *rpc.Nodes, a api.Ask, want api.Answer) {
	t.Helper()
	if got := n.Do(a); !reflect.DeepEqual(got, want) {
		t.Errorf("%s: %s, not %s", ask(a), told(got), told(want))
	}
}

// expectIdle holds that a question is answered so each time that it is asked, and changes no node.
func expectIdle(t testing.TB, n *rpc.Nodes, a api.Ask, want api.Answer) {
	t.Helper()
	before := showNodes(n)
	for range 2 {
		expect(t, n, a, want)
		if where := differ(showNodes(n), before); len(where) > 0 {
			t.Fatalf("%s: it changed %v", ask(a), where)
		}
	}
}

// expectAlone holds that a question is answered so, and changes no node but the one that it goes to, and that one.
func expectAlone(t testing.TB, n *rpc.Nodes, a api.Ask, want api.Answer) {
	t.Helper()
	before := showNodes(n)
	expect(t, n, a, want)
	if where := differ(showNodes(n), before); !slices.Equal(where, []string{nodeName(a)}) {
		t.Errorf("%s: it changed %v", ask(a), where)
	}
}

// of is the projection of these chains in the epoch.
func of(epoch int, chains ...[]int) api.Projection {
	return api.Projection{Epoch: epoch, Chains: chains}
}

// to is a question to a unit.
func to(k, kind, epoch, page int, s string) api.Ask {
	return api.Ask{Kind: kind, Unit: k, Epoch: epoch, Page: page, Data: s}
}

func startOf(epoch, tail int) api.Ask {
	return api.Ask{Kind: api.AskStart, Epoch: epoch, Page: tail}
}

func nextOf(epoch int) api.Ask { return api.Ask{Kind: api.AskNext, Epoch: epoch} }

func tailOf(epoch int) api.Ask { return api.Ask{Kind: api.AskTail, Epoch: epoch} }

func lookOf() api.Ask { return api.Ask{Kind: api.AskLayout} }

func changeOf(p api.Projection) api.Ask { return api.Ask{Kind: api.AskChange, P: p} }

func markOf(page, size, next int) api.Ask {
	return api.Ask{Kind: api.AskMark, Page: page, Size: size, N: next}
}

// code is an answer that tells no more than a Code.
func code(err api.Errno) api.Answer { return api.Answer{Code: int(err)} }

// codeIn is an answer that tells no more than a Code and the node's epoch.
func codeIn(err api.Errno, epoch int) api.Answer { return api.Answer{Code: int(err), Epoch: epoch} }

// number is an answer with a number of the node's epoch.
func number(n, epoch int) api.Answer { return api.Answer{N: n, Epoch: epoch} }

// marked is an answer with an image.
func marked(page, size, next int) api.Answer { return api.Answer{Mark: page, Size: size, N: next} }

func ask(a api.Ask) string {
	return fmt.Sprintf("kind %d to unit %d of epoch %d with page %d, size %d, N %d, %d bytes, %.200s", a.Kind, a.Unit, a.Epoch, a.Page, a.Size, a.N, len(a.Data), fmt.Sprint(a.P))
}

func told(a api.Answer) string {
	a.Data = fmt.Sprintf("%.20s", a.Data)
	return fmt.Sprintf("%+v", a)
}
