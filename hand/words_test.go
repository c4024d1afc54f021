package hand_test

import (
	"fmt"
	"math"
	"reflect"
	"slices"
	"strings"
	"testing"

	"escheat/api"
	"escheat/hand"
	"escheat/rpc"
	"escheat/unit"
)

// The words of the chapter, told in another way than the program's: nodes that are asked by themselves, and all questions that were ever held, each with what became of it.

const (
	maxHeld   = 64
	maxUnits  = 16
	maxPages  = 4096
	maxRecord = 4096
	maxAddr   = 16384
	maxText   = 65536
)

// Texts of as many bytes as a page takes, and of one more.
var (
	longest = strings.Repeat("x", maxRecord)
	longer  = longest + "x"
)

// others are fates beside the four that the chapter names, and Lost, which is one with them.
var others = []int{
	api.Lost, 4, -1, -2, -3, -4, 5, 6, 7, 8, 16, 99, 255, 256, 256 + 2, 256 + 3, 65536 + 2, 1 << 31, 1 << 32, 1<<32 + 2, 1<<32 + 3, -1 << 31, -1 << 32, -1<<32 + 2, -1<<32 + 3, 1 << 62, 1<<62 + 3, -1 << 62,
	math.MaxInt, math.MaxInt - 1, math.MinInt, math.MinInt + 1, math.MinInt + 2, math.MinInt + 3,
}

// fates are all fates that differ in what becomes of a question, and some that do not.
var fates = []int{api.Heard, api.Lost, api.Deaf, api.Held, 4, -1}

// far are numbers that no question has that is held.
var far = []int{
	-1, -2, -64, maxHeld, maxHeld + 1, 255, 256, 65536, 1 << 31, 1<<31 - 1, 1 << 32, 1<<32 + 1, -1 << 31, -1 << 32, -1<<32 + 1, 1 << 62, -1 << 62, math.MaxInt, math.MaxInt - 1, math.MinInt, math.MinInt + 1,
}

// The kinds of questions, and some that are none.
var (
	ofUnits = []int{api.AskWrite, api.AskFill, api.AskRead, api.AskTrim, api.AskSeal}
	ofOrder = []int{api.AskNext, api.AskTail, api.AskStart}
	kinds   = slices.Concat(ofUnits, ofOrder, []int{api.AskLayout, api.AskChange, api.AskMark})
	foreign = []int{0, -1, 12, 13, 256 + 6, 1<<32 + 1, math.MaxInt, math.MinInt}
)

// came is a question that was to be held, and if it still is.
type came struct {
	a     api.Ask
	waits bool
}

// model is how questions come to nodes by the words.
type model struct {
	nodes *rpc.Nodes
	came  []came
}

// waiting are the places of all that are held.
func (m *model) waiting() []int {
	var l []int
	for i, c := range m.came {
		if c.waits {
			l = append(l, i)
		}
	}
	return l
}

func (m *model) held() []api.Ask {
	var l []api.Ask
	for _, i := range m.waiting() {
		l = append(l, m.came[i].a)
	}
	return l
}

func (m *model) ask(a api.Ask, fate int) (api.Answer, bool) {
	if fate == api.Held {
		m.came = append(m.came, came{copied(a), len(m.waiting()) < maxHeld})
	}
	if fate != api.Heard && fate != api.Deaf {
		return api.Answer{}, false
	}
	answer := m.nodes.Do(copied(a))
	if fate == api.Deaf {
		answer = api.Answer{}
	}
	return answer, fate == api.Heard
}

// end is the end of the k-th question that is held: it is done, or not.
func (m *model) end(k int, done bool) bool {
	l := m.waiting()
	if k < 0 || k >= len(l) {
		return false
	}
	m.came[l[k]].waits = false
	if done {
		m.nodes.Do(copied(m.came[l[k]].a))
	}
	return true
}

// both is a hand over nodes, and the same by the words over other ones; what is done to both comes to the same.
type both struct {
	t testing.TB
	h *hand.Hand
	n *rpc.Nodes
	m *model
}

func made(t testing.TB, p api.Projection, room int) both {
	t.Helper()
	n := begun(t, p, room)
	b := both{t, hand.New(n), n, &model{nodes: begun(t, p, room)}}
	b.same()
	return b
}

// ask asks both, and answers what the hand told.
func (b both) ask(a api.Ask, fate int) (api.Answer, bool) {
	b.t.Helper()
	want, wantOk := b.m.ask(a, fate)
	got, ok := b.h.Ask(a, fate)
	if !reflect.DeepEqual(got, want) || ok != wantOk {
		b.t.Errorf("%s, fate %d: %s, %v, not %s, %v", asked(a), fate, told(got), ok, told(want), wantOk)
	}
	return got, ok
}

func (b both) do(k int) bool {
	b.t.Helper()
	want, got := b.m.end(k, true), b.h.Do(k)
	if got != want {
		b.t.Errorf("Do(%d) of %d: %v, not %v", k, len(b.m.waiting()), got, want)
	}
	return got
}

func (b both) drop(k int) bool {
	b.t.Helper()
	want, got := b.m.end(k, false), b.h.Drop(k)
	if got != want {
		b.t.Errorf("Drop(%d) of %d: %v, not %v", k, len(b.m.waiting()), got, want)
	}
	return got
}

// upset does a thing to the nodes of both.
func (b both) upset(f func(n *rpc.Nodes)) {
	f(b.n)
	f(b.m.nodes)
}

// sameHeld holds that what is held comes to the same.
func (b both) sameHeld() {
	b.t.Helper()
	expectHeld(b.t, b.h, b.m.held()...)
}

// same holds that what is held and all that the nodes show come to the same, and that the nodes are themselves.
func (b both) same() {
	b.t.Helper()
	b.sameHeld()
	if where := differ(show(b.n), show(b.m.nodes)); len(where) > 0 {
		b.t.Errorf("%v are others than the words make", where)
	}
	if b.h.Nodes() != b.n {
		b.t.Errorf("Nodes() is not what New was given")
	}
}

func expectHeld(t testing.TB, h *hand.Hand, want ...api.Ask) {
	t.Helper()
	got := h.Held()
	if len(got) != len(want) {
		t.Errorf("%d are held, not %d", len(got), len(want))
		return
	}
	for k, a := range got {
		if !alike(a, want[k]) {
			t.Errorf("held as %d: %s, not %s", k, asked(a), asked(want[k]))
		}
	}
}

// expectNone holds that a question of that fate is told no answer.
func expectNone(t testing.TB, h *hand.Hand, a api.Ask, fate int) {
	t.Helper()
	if got, ok := h.Ask(a, fate); ok || !reflect.DeepEqual(got, api.Answer{}) {
		t.Errorf("%s, fate %d: %s, %v", asked(a), fate, told(got), ok)
	}
}

// expectHeard holds that a question that is heard is answered so.
func expectHeard(t testing.TB, h *hand.Hand, a api.Ask, want api.Answer) {
	t.Helper()
	if got, ok := h.Ask(a, api.Heard); !ok || !reflect.DeepEqual(got, want) {
		t.Errorf("%s: %s, %v, not %s", asked(a), told(got), ok, told(want))
	}
}

// expectIdle holds that f changes none of the nodes.
func expectIdle(t testing.TB, n *rpc.Nodes, f func()) {
	t.Helper()
	expectChanged(t, n, f)
}

// expectChanged holds that f changes these nodes and no others.
func expectChanged(t testing.TB, n *rpc.Nodes, f func(), names ...string) {
	t.Helper()
	before := show(n)
	f()
	if where := differ(show(n), before); !slices.Equal(where, names) {
		t.Errorf("%q changed, not %q", where, names)
	}
}

// shown is all that nodes show without being changed.
type shown struct {
	units  [maxUnits]unitShown
	epoch  int
	knows  bool
	tail   api.Answer
	used   []int
	layout api.Answer
}

// unitShown is what a unit shows; of its pages those that the tests ask for: what stood on another one would be in sums.
type unitShown struct {
	down  bool
	epoch int
	sums  [3]int
	kinds [80]int
	texts [80]string
}

func showUnit(u *unit.Unit) unitShown {
	p := u.Pages()
	v := unitShown{down: u.Down(), epoch: u.Epoch(), sums: [3]int{p.Tail(), p.Used(), p.Edge()}}
	for at := range v.kinds {
		if v.kinds[at] = p.Kind(at); v.kinds[at] == api.Written {
			v.texts[at], _ = p.Read(at)
		}
	}
	return v
}

func show(n *rpc.Nodes) shown {
	o, l := n.Order(), n.Layout()
	v := shown{epoch: o.Epoch(), knows: o.Knows(), tail: o.Do(tailOf(o.Epoch())), used: l.Used(), layout: l.Do(lookOf())}
	for k := range v.units {
		v.units[k] = showUnit(n.Unit(k))
	}
	return v
}

// differ are the names of the nodes that show another thing in v than in w.
func differ(v, w shown) []string {
	var l []string
	for k := range v.units {
		if v.units[k] != w.units[k] {
			l = append(l, unitName(k))
		}
	}
	if v.epoch != w.epoch || v.knows != w.knows || !reflect.DeepEqual(v.tail, w.tail) {
		l = append(l, "the sequencer")
	}
	if !slices.Equal(v.used, w.used) || !reflect.DeepEqual(v.layout, w.layout) {
		l = append(l, "the layout")
	}
	return l
}

func unitName(k int) string { return fmt.Sprint("unit ", k) }

// begun is the nodes of a projection that is good, and of a room that is one.
func begun(t testing.TB, p api.Projection, room int) *rpc.Nodes {
	t.Helper()
	n, err := rpc.New(p, room)
	if n == nil || err != api.OK {
		t.Fatalf("New(%v, %d): %v", p, room, err)
	}
	return n
}

// copied is a in new memory.
func copied(a api.Ask) api.Ask {
	a.Data = strings.Clone(a.Data)
	a.P.Chains = slices.Clone(a.P.Chains)
	for i, chain := range a.P.Chains {
		a.P.Chains[i] = slices.Clone(chain)
	}
	return a
}

// alike tells if two questions are one in all fields; a nil list is one with an empty one.
func alike(a, b api.Ask) bool {
	chains := slices.EqualFunc(a.P.Chains, b.P.Chains, slices.Equal[[]int])
	epochs := a.P.Epoch == b.P.Epoch
	a.P, b.P = api.Projection{}, api.Projection{}
	return chains && epochs && reflect.DeepEqual(a, b)
}

// of is the projection of these chains in the epoch.
func of(epoch int, chains ...[]int) api.Projection {
	return api.Projection{Epoch: epoch, Chains: chains}
}

// to is a question to a unit.
func to(k, kind, epoch, page int, s string) api.Ask {
	return api.Ask{Kind: kind, Unit: k, Epoch: epoch, Page: page, Data: s}
}

// writeOf writes a text that is the page's own, in epoch 0.
func writeOf(k, page int) api.Ask { return to(k, api.AskWrite, 0, page, fmt.Sprint("page ", page)) }

func startOf(epoch, tail int) api.Ask {
	return api.Ask{Kind: api.AskStart, Epoch: epoch, Page: tail}
}

func nextOf(epoch int) api.Ask { return api.Ask{Kind: api.AskNext, Epoch: epoch} }

func tailOf(epoch int) api.Ask { return api.Ask{Kind: api.AskTail, Epoch: epoch} }

func lookOf() api.Ask { return api.Ask{Kind: api.AskLayout} }

func changeOf(p api.Projection) api.Ask { return api.Ask{Kind: api.AskChange, P: p} }

func markOf(page, size, next int) api.Ask {
	return api.Ask{Kind: api.AskMark, Page: page, Size: size, N: next}
}

// full is a question with something in each field, whatever its kind asks.
func full(kind, v int) api.Ask {
	return api.Ask{Kind: kind, Unit: v % maxUnits, Epoch: v, Page: v + 1, Size: v + 2, N: v + 3, Data: fmt.Sprint("data ", v), P: of(v+4, []int{v, v + 5}, nil, []int{v + 6})}
}

// code is an answer that tells no more than a Code.
func code(err api.Errno) api.Answer { return api.Answer{Code: int(err)} }

// codeIn is an answer that tells no more than a Code and the node's epoch.
func codeIn(err api.Errno, epoch int) api.Answer { return api.Answer{Code: int(err), Epoch: epoch} }

// number is an answer with a number of the node's epoch.
func number(n, epoch int) api.Answer { return api.Answer{N: n, Epoch: epoch} }

// marked is an answer with an image.
func marked(page, size, next int) api.Answer { return api.Answer{Mark: page, Size: size, N: next} }

func asked(a api.Ask) string {
	return fmt.Sprintf("kind %d to unit %d of epoch %d with page %d, size %d, N %d, %.20q, %.200s", a.Kind, a.Unit, a.Epoch, a.Page, a.Size, a.N, a.Data, fmt.Sprint(a.P))
}

func told(a api.Answer) string {
	a.Data = fmt.Sprintf("%.20s", a.Data)
	return fmt.Sprintf("%+v", a)
}
