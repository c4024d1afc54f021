package tail_test

import (
	"fmt"
	"math"
	"reflect"
	"slices"
	"testing"

	"escheat/api"
	"escheat/tail"
)

// The words of the chapter, told in another way than the program's: a table of what each Code comes to at each place.

const (
	maxUnits = 16
	maxPages = 4096
	maxAddr  = 16384
	maxEpoch = 1<<31 - 1
)

// row is what each Code comes to, and what all others do.
type row struct {
	named map[api.Errno]string
	other string
}

// words are the chapter's, by the place where a Code is heard.
var words = map[string]row{
	"layout": {map[api.Errno]string{api.OK: "P", api.ErrNoOrder: "stay", api.ErrDown: "stay", api.ErrSealed: "layout"}, "stay"},
	"tail":   {map[api.Errno]string{api.OK: "N", api.ErrNoOrder: "stay", api.ErrDown: "stay", api.ErrSealed: "layout"}, "over"},
	"over":   {nil, "stay"},
}

// model is a tail by the words: where it is, its projection, and how it is over.
type model struct {
	at   string
	p    api.Projection
	addr int
	err  api.Errno
}

func newModel(p api.Projection) *model {
	if isGood(p) {
		return &model{at: "tail", p: copied(p)}
	}
	return &model{at: "over", p: copied(p), err: api.ErrArg}
}

func (m *model) ask() (api.Ask, bool) {
	switch m.at {
	case "layout":
		return layoutAsk(), true
	case "tail":
		return tailAsk(m.p.Epoch), true
	}
	return api.Ask{}, false
}

func (m *model) hear(x api.Answer, heard bool) {
	if !heard {
		return
	}
	r := words[m.at]
	becomes, ok := r.named[api.Errno(x.Code)]
	if !ok {
		becomes = r.other
	}
	switch {
	case becomes == "layout":
		m.at = "layout"
	case becomes == "P" && isGood(x.P):
		m.at, m.p = "tail", copied(x.P)
	case becomes == "N" && x.N >= 0 && x.N <= maxAddr:
		m.at, m.addr = "over", x.N
	case becomes == "N":
		m.at, m.err = "over", api.ErrArg
	case becomes == "over":
		m.at, m.err = "over", api.Errno(x.Code)
	}
}

// both is a tail, and the same by the words; what both hear comes to the same.
type both struct {
	t testing.TB
	a *tail.Tail
	m *model
}

func made(t testing.TB, p api.Projection) both {
	t.Helper()
	b := both{t, tail.New(p), newModel(p)}
	b.same()
	return b
}

func (b both) hear(x api.Answer, heard bool) {
	b.t.Helper()
	was := b.m.at
	b.m.hear(x, heard)
	b.a.Hear(x, heard)
	if !b.isSame() {
		b.t.Errorf("behind %s, heard %v, at %s it is not at %+v, but %s", told(x), heard, was, *b.m, show(b.a))
	}
}

// answers lets both hear these.
func (b both) answers(l ...api.Answer) {
	b.t.Helper()
	for _, x := range l {
		b.hear(x, true)
	}
}

func (b both) isSame() bool {
	q, asks := b.a.Ask()
	wantQ, wantAsks := b.m.ask()
	addr, err, over := b.a.Over()
	return reflect.DeepEqual(q, wantQ) && asks == wantAsks && addr == b.m.addr && err == b.m.err && over == (b.m.at == "over") && alike(b.a.P(), b.m.p)
}

// same holds that both are at the same place, with the same projection.
func (b both) same() {
	b.t.Helper()
	if !b.isSame() {
		b.t.Errorf("it is not at %+v, but %s", *b.m, show(b.a))
	}
}

// expectAt holds that both are at this place.
func (b both) expectAt(at string) {
	b.t.Helper()
	b.same()
	if b.m.at != at {
		b.t.Errorf("it is at %+v, not at %s", *b.m, at)
	}
}

// show is all that a tail tells.
func show(a *tail.Tail) string {
	q, asks := a.Ask()
	addr, err, over := a.Over()
	return fmt.Sprintf("asks %s, %v; over %d, %d, %v; %.200s", asked(q), asks, addr, err, over, fmt.Sprint(a.P()))
}

// expectAsk holds that it asks just this, and is not over.
func expectAsk(t testing.TB, a *tail.Tail, want api.Ask) {
	t.Helper()
	q, ok := a.Ask()
	addr, err, over := a.Over()
	if !reflect.DeepEqual(q, want) || !ok || addr != 0 || err != api.OK || over {
		t.Errorf("it does not ask %s: %s", asked(want), show(a))
	}
}

// expectOver holds that it is over so, and asks nothing.
func expectOver(t testing.TB, a *tail.Tail, addr int, err api.Errno) {
	t.Helper()
	q, ok := a.Ask()
	n, e, over := a.Over()
	if !reflect.DeepEqual(q, api.Ask{}) || ok || n != addr || e != err || !over {
		t.Errorf("it is not over with %d, %v: %s", addr, err, show(a))
	}
}

func expectP(t testing.TB, a *tail.Tail, want api.Projection) {
	t.Helper()
	if got := a.P(); !alike(got, want) {
		t.Errorf("its projection is %.200s, not %.200s", fmt.Sprint(got), fmt.Sprint(want))
	}
}

// isGood tells if p is a good projection, by the words of its chapter.
func isGood(p api.Projection) bool {
	stand := map[int]int{}
	for _, chain := range p.Chains {
		for _, u := range chain {
			stand[u]++
		}
		if len(chain) < 1 || len(chain) > 4 {
			return false
		}
	}
	for u, times := range stand {
		if u < 0 || u >= maxUnits || times > 1 {
			return false
		}
	}
	return p.Epoch >= 0 && p.Epoch <= maxEpoch && len(p.Chains) >= 1 && len(p.Chains) <= 4
}

// bads are projections that are not good, each way in which one is not.
func bads() []api.Projection {
	var l []api.Projection
	for _, epoch := range []int{-1, -2, maxEpoch + 1, maxEpoch + 2, 1 << 32, -1 << 31, -1 << 32, math.MaxInt, math.MinInt} {
		l = append(l, of(epoch, []int{0, 1}, []int{2}))
	}
	l = append(l, api.Projection{}, of(3), of(3, [][]int{}...), of(3, []int{0}, []int{1}, []int{2}, []int{3}, []int{4}), of(3, slices.Repeat([][]int{{5}}, 40)...))
	l = append(l, of(3, nil), of(3, []int{}), of(3, []int{}, []int{0, 1}), of(3, []int{0, 1}, nil), of(3, []int{0}, []int{}, []int{1}), of(3, []int{0, 1, 2, 3, 4}), of(3, []int{9}, []int{0, 1, 2, 3, 4}))
	for _, u := range []int{-1, maxUnits, maxUnits + 1, 255, 256, 1 << 32, -1 << 32, math.MaxInt, math.MinInt} {
		l = append(l, of(3, []int{u}), of(3, []int{u, 1}, []int{2}), of(3, []int{0, 1}, []int{2, u}))
	}
	return append(l, of(3, []int{0, 0}), of(3, []int{0, 1, 0}), of(3, []int{0, 1}, []int{2, 1}), of(3, []int{0}, []int{2}, []int{0}), of(3, []int{0, 1, 2, 3}, []int{4, 5, 6, 7}, []int{8, 9, 10, 11}, []int{12, 13, 14, 0}))
}

// goods are projections of one to four chains, of one to four units, three and next among them.
func goods() []api.Projection {
	return []api.Projection{
		of(0, []int{0}), of(3, []int{4, 5}), of(maxEpoch, []int{15}), of(1, []int{2, 0, 1}), of(2, []int{3, 2, 1, 0}), of(9, []int{4, 5}, []int{6}), of(7, []int{0}, []int{15, 14, 13, 12}),
		of(0, []int{9, 3}, []int{1, 2, 0}, []int{8}), of(1<<30, []int{0, 1, 2, 3}, []int{4, 5, 6, 7}, []int{8, 9, 10, 11}, []int{15, 14, 13, 12}), three(), next(),
	}
}

// three is a projection of which the chains have three units, one, and two; next may come next behind it.
func three() api.Projection { return of(3, []int{4, 5, 7}, []int{6}, []int{0, 1}) }
func next() api.Projection  { return of(4, []int{5, 7, 8}, []int{6, 9}, []int{1}) }

// of is the projection of these chains in the epoch.
func of(epoch int, chains ...[]int) api.Projection {
	return api.Projection{Epoch: epoch, Chains: chains}
}

// copied is p in new memory.
func copied(p api.Projection) api.Projection {
	p.Chains = slices.Clone(p.Chains)
	for i, chain := range p.Chains {
		p.Chains[i] = slices.Clone(chain)
	}
	return p
}

// alike tells if two projections are one; a nil list is one with an empty one.
func alike(p, q api.Projection) bool {
	return p.Epoch == q.Epoch && slices.EqualFunc(p.Chains, q.Chains, slices.Equal[[]int])
}

// codes are all Codes of api, and numbers that are none.
var codes = []api.Errno{
	api.OK, api.ErrArg, api.ErrLong, api.ErrMany, api.ErrShort, api.ErrForm, api.ErrSum, api.ErrSealed, api.ErrWritten, api.ErrUnwrit, api.ErrTrimmed, api.ErrFull, api.ErrDown, api.ErrJunk, api.ErrNoOrder, api.ErrNext,
	api.ErrNone, api.ErrTwice, api.ErrNotDir, api.ErrIsDir, api.ErrFilled, api.ErrInside, api.ErrLinks, api.ErrSpace, api.ErrHandle, api.ErrTime, api.ErrBusy, api.ErrLine,
	-1, 4, 39, 49, -40, -45, -47, 256, 256 + 40, 256 + 45, 256 + 47, 65536 + 40, 65536 + 47, 1<<32 + 40, 1<<32 + 45, 1 << 32, -1 << 32, math.MaxInt, math.MinInt,
}

// code is an answer that tells no more than a Code; sealed, down, noOrder and full are such ones.
func code(err api.Errno) api.Answer { return api.Answer{Code: int(err)} }

var sealed, down, noOrder, full = code(api.ErrSealed), code(api.ErrDown), code(api.ErrNoOrder), code(api.ErrFull)

// number is what the sequencer answers.
func number(n int) api.Answer { return api.Answer{N: n} }

// plan is what the layout answers.
func plan(p api.Projection) api.Answer { return api.Answer{P: p} }

// filled is an answer with that Code that has something in each field.
func filled(err api.Errno) api.Answer {
	return api.Answer{Code: int(err), N: 13, Data: "r", P: next(), Mark: 3, Size: 4, Epoch: 9}
}

func layoutAsk() api.Ask { return api.Ask{Kind: api.AskLayout} }

func tailAsk(epoch int) api.Ask { return api.Ask{Kind: api.AskTail, Epoch: epoch} }

func asked(a api.Ask) string {
	return fmt.Sprintf("kind %d to unit %d of epoch %d with page %d, size %d, N %d, %.20q, %.100s", a.Kind, a.Unit, a.Epoch, a.Page, a.Size, a.N, a.Data, fmt.Sprint(a.P))
}

func told(a api.Answer) string {
	return fmt.Sprintf("code %d, N %d, %.20q, %.100s", a.Code, a.N, a.Data, fmt.Sprint(a.P))
}
