package reform_test

import (
	"fmt"
	"math"
	"reflect"
	"slices"
	"testing"

	"escheat/api"
	"escheat/reform"
)

// The words of the chapter, told in another way than the program's: a table of what each Code comes to at each place.

const (
	maxUnits = 16
	maxPages = 4096
	maxAddr  = 16384
	maxEpoch = 1<<31 - 1
)

// row is what each Code comes to, and what all others do.
type row struct {
	named map[api.Errno]string
	other string
}

// words are the chapter's, by the place where a Code is heard.
var words = map[string]row{
	"layout": {map[api.Errno]string{api.OK: "P", api.ErrDown: "stay"}, "over"},
	"seal":   {map[api.Errno]string{api.OK: "N", api.ErrDown: "stay", api.ErrSealed: "over"}, "over"},
	"change": {map[api.Errno]string{api.OK: "start", api.ErrDown: "stay", api.ErrNext: "P alike"}, "over"},
	"start":  {map[api.Errno]string{api.OK: "done", api.ErrDown: "stay", api.ErrSealed: "Epoch"}, "over"},
	"over":   {nil, "stay"},
}

// model is a reform by the words: where it is (at seal: of which unit), what is to come, what counted, and what was told.
type model struct {
	at    string
	i     int
	q, p  api.Projection
	tails [maxUnits]int
	err   api.Errno
}

func newModel(q api.Projection) *model {
	if isGood(q) {
		return &model{at: "layout", q: copied(q)}
	}
	return &model{at: "over", err: api.ErrForm}
}

func (m *model) ask() (api.Ask, bool) {
	switch m.at {
	case "layout":
		return layoutAsk(), true
	case "seal":
		return sealAsk(m.q.Epoch, unitsOf(m.p)[m.i]), true
	case "change":
		return changeAsk(m.q), true
	case "start":
		return startAsk(m.q.Epoch, tailOf(m.p, m.tails)), true
	}
	return api.Ask{}, false
}

func (m *model) hear(x api.Answer, heard bool) {
	if !heard {
		return
	}
	becomes, ok := words[m.at].named[api.Errno(x.Code)]
	if !ok {
		becomes = words[m.at].other
	}
	switch becomes {
	case "P":
		if !comesNext(x.P, m.q) {
			m.at, m.err = "over", api.ErrNext
			return
		}
		m.at, m.p = "seal", copied(x.P)
	case "N":
		m.tails[unitsOf(m.p)[m.i]] = x.N
		m.onward()
	case "start":
		m.at = "start"
	case "P alike":
		if m.at = "start"; !alike(x.P, m.q) {
			m.at, m.err = "over", api.ErrNext
		}
	case "done":
		m.at = "over"
	case "Epoch":
		if m.at = "over"; x.Epoch != m.q.Epoch {
			m.err = api.ErrSealed
		}
	case "over":
		m.at, m.err = "over", api.Errno(x.Code)
	}
}

func (m *model) skip() bool {
	if m.at != "seal" || slices.Contains(unitsOf(m.q), unitsOf(m.p)[m.i]) {
		return false
	}
	m.onward()
	return true
}

func (m *model) onward() {
	if m.i++; m.i == len(unitsOf(m.p)) {
		m.at = "change"
	}
}

// place is where the model is, in a word.
func (m *model) place() string {
	if m.at == "seal" {
		return fmt.Sprint("seal ", m.i)
	}
	return m.at
}

// both is a reform, and the same by the words; what both hear comes to the same.
type both struct {
	t testing.TB
	a *reform.Reform
	m *model
}

func made(t testing.TB, q api.Projection) both {
	t.Helper()
	b := both{t, reform.New(q), newModel(q)}
	b.same()
	return b
}

func (b both) hear(x api.Answer, heard bool) {
	b.t.Helper()
	was := b.m.place()
	b.m.hear(x, heard)
	b.a.Hear(x, heard)
	if !b.isSame() {
		b.t.Errorf("behind %s, heard %v, at %s it is not at %+v, but %s", told(x), heard, was, *b.m, show(b.a))
	}
}

// answers lets both hear these.
func (b both) answers(l ...api.Answer) {
	b.t.Helper()
	for _, x := range l {
		b.hear(x, true)
	}
}

// skip skips both, and tells if that was done.
func (b both) skip() bool {
	b.t.Helper()
	was := b.m.place()
	want := b.m.skip()
	if got := b.a.Skip(); got != want {
		b.t.Errorf("Skip at %s is %v", was, got)
	}
	if !b.isSame() {
		b.t.Errorf("behind Skip at %s it is not at %+v, but %s", was, *b.m, show(b.a))
	}
	return want
}

func (b both) isSame() bool {
	q, asks := b.a.Ask()
	wantQ, wantAsks := b.m.ask()
	err, over := b.a.Over()
	return sameAsk(q, wantQ) && asks == wantAsks && err == b.m.err && over == (b.m.at == "over")
}

// same holds that both are at the same place.
func (b both) same() {
	b.t.Helper()
	if !b.isSame() {
		b.t.Errorf("it is not at %+v, but %s", *b.m, show(b.a))
	}
}

// expectAt holds that both are at this place.
func (b both) expectAt(at string) {
	b.t.Helper()
	b.same()
	if b.m.place() != at {
		b.t.Errorf("it is at %+v, not at %s", *b.m, at)
	}
}

// show is all that a reform tells.
func show(a *reform.Reform) string {
	q, asks := a.Ask()
	err, over := a.Over()
	return fmt.Sprintf("asks %s, %v; over %d, %v", asked(q), asks, err, over)
}

// expectAsk holds that it asks just this, and is not over.
func expectAsk(t testing.TB, a *reform.Reform, want api.Ask) {
	t.Helper()
	q, ok := a.Ask()
	err, over := a.Over()
	if !sameAsk(q, want) || !ok || err != api.OK || over {
		t.Errorf("it does not ask %s: %s", asked(want), show(a))
	}
}

// expectOver holds that it is over so, asks nothing, and skips nothing.
func expectOver(t testing.TB, a *reform.Reform, err api.Errno) {
	t.Helper()
	q, ok := a.Ask()
	e, over := a.Over()
	if !reflect.DeepEqual(q, api.Ask{}) || ok || e != err || !over || a.Skip() {
		t.Errorf("it is not over with %v: %s", err, show(a))
	}
}

// sameAsk tells if two questions are alike in each field; a nil list is one with an empty one.
func sameAsk(a, b api.Ask) bool {
	p, q := a.P, b.P
	a.P, b.P = api.Projection{}, api.Projection{}
	return reflect.DeepEqual(a, b) && alike(p, q)
}

// isGood tells if p is a good projection, by the words of its chapter.
func isGood(p api.Projection) bool {
	stand := map[int]int{}
	for _, chain := range p.Chains {
		for _, u := range chain {
			stand[u]++
		}
		if len(chain) < 1 || len(chain) > 4 {
			return false
		}
	}
	for u, times := range stand {
		if u < 0 || u >= maxUnits || times > 1 {
			return false
		}
	}
	return p.Epoch >= 0 && p.Epoch <= maxEpoch && len(p.Chains) >= 1 && len(p.Chains) <= 4
}

// comesNext tells if q may come next behind p, by the words of its chapter.
func comesNext(p, q api.Projection) bool {
	if !isGood(p) || !isGood(q) || q.Epoch-p.Epoch != 1 || len(q.Chains) != len(p.Chains) {
		return false
	}
	for i, chain := range q.Chains {
		ahead, stay := p.Chains[i], 0
		for ; stay < len(chain) && slices.Contains(ahead, chain[stay]); stay++ {
			ahead = ahead[slices.Index(ahead, chain[stay])+1:]
		}
		came := slices.ContainsFunc(chain[stay:], func(k int) bool { return slices.Contains(unitsOf(p), k) })
		if stay == 0 || came {
			return false
		}
	}
	return true
}

// unitsOf are the units of a good projection, rising.
func unitsOf(p api.Projection) (l []int) {
	for _, chain := range p.Chains {
		l = append(l, chain...)
	}
	slices.Sort(l)
	return l
}

// tailOf is the least address above all that lie on pages that units of p have: address by address, from the end.
func tailOf(p api.Projection, tails [maxUnits]int) int {
	most := make([]int, len(p.Chains))
	for i, chain := range p.Chains {
		for _, k := range chain {
			most[i] = max(most[i], min(tails[k], maxPages))
		}
	}
	addr := min(maxAddr, (slices.Max(most)+1)*len(most))
	for addr > 0 && (addr-1)/len(most) >= most[(addr-1)%len(most)] {
		addr--
	}
	return addr
}

// bads are projections that are not good, each way in which one is not.
func bads() []api.Projection {
	var l []api.Projection
	for _, epoch := range []int{-1, -2, maxEpoch + 1, maxEpoch + 2, 1 << 32, -1 << 31, -1 << 32, math.MaxInt, math.MinInt} {
		l = append(l, of(epoch, []int{0, 1}, []int{2}))
	}
	l = append(l, api.Projection{}, of(3), of(3, [][]int{}...), of(3, []int{0}, []int{1}, []int{2}, []int{3}, []int{4}), of(3, slices.Repeat([][]int{{5}}, 40)...))
	l = append(l, of(3, nil), of(3, []int{}), of(3, []int{}, []int{0, 1}), of(3, []int{0, 1}, nil), of(3, []int{0}, []int{}, []int{1}), of(3, []int{0, 1, 2, 3, 4}), of(3, []int{9}, []int{0, 1, 2, 3, 4}))
	for _, u := range []int{-1, maxUnits, maxUnits + 1, 255, 256, 1 << 32, -1 << 32, math.MaxInt, math.MinInt} {
		l = append(l, of(3, []int{u}), of(3, []int{u, 1}, []int{2}), of(3, []int{0, 1}, []int{2, u}))
	}
	return append(l, of(3, []int{0, 0}), of(3, []int{0, 1, 0}), of(3, []int{0, 1}, []int{2, 1}), of(3, []int{0}, []int{2}, []int{0}), of(3, []int{0, 1, 2, 3}, []int{4, 5, 6, 7}, []int{8, 9, 10, 11}, []int{12, 13, 14, 0}))
}

// three is a projection of which the chains have three units, one, and two; next may come next behind it: the units 0 and 4 leave, 8 and 9 come in.
func three() api.Projection { return of(3, []int{4, 5, 7}, []int{6}, []int{0, 1}) }
func next() api.Projection  { return of(4, []int{5, 7, 8}, []int{6, 9}, []int{1}) }

// of is the projection of these chains in the epoch.
func of(epoch int, chains ...[]int) api.Projection {
	return api.Projection{Epoch: epoch, Chains: chains}
}

// pair is a projection, and one that may come next behind it.
type pair struct{ p, q api.Projection }

// pairs are changes of one to four chains: units stay, leave, come in, at the beginning, in the middle and at the end of a chain, and of all units; or the Epoch alone is another one.
func pairs() []pair {
	l := []pair{
		{three(), next()}, {of(0, []int{0}), of(1, []int{0})}, {of(0, []int{0, 1}), of(1, []int{0, 1})}, {of(6, []int{15}), of(7, []int{15, 0, 14, 1})}, {of(maxEpoch-1, []int{9, 8}), of(maxEpoch, []int{8, 7})},
		{of(0, []int{0, 1}, []int{2, 3}), of(1, []int{1}, []int{2, 3, 4})}, {of(2, []int{3, 2, 1, 0}), of(3, []int{3, 1})}, {of(2, []int{3, 2, 1, 0}), of(3, []int{2, 0, 9})}, {of(2, []int{3, 2, 1, 0}), of(3, []int{0})},
		{of(1<<30, []int{0, 1, 2, 3}, []int{4, 5, 6, 7}, []int{8, 9, 10, 11}, []int{15, 14, 13, 12}), of(1<<30+1, []int{3}, []int{4}, []int{9, 10}, []int{15, 14, 13, 12})},
	}
	for _, q := range []api.Projection{
		of(4, three().Chains...), of(4, []int{5, 7}, []int{6}, []int{0, 1}), of(4, []int{4, 7}, []int{6}, []int{0, 1}), of(4, []int{4, 5}, []int{6}, []int{1}), of(4, []int{7}, []int{6}, []int{0, 1}), of(4, []int{7}, []int{6}, []int{0}), of(4, []int{4, 5, 7, 9}, []int{6, 10}, []int{0, 1, 11}),
	} {
		l = append(l, pair{three(), q})
	}
	return l
}

// misses are projections behind which next may not come next: not good ones, of another Epoch, with a unit more or fewer, in another order, with a chain more or fewer.
func misses() []api.Projection {
	l := append(bads(), next())
	for _, epoch := range []int{0, 2, 4, 5, maxEpoch, -1, 3 + 1<<32} {
		l = append(l, of(epoch, three().Chains...))
	}
	return append(l,
		of(3, []int{4, 5, 8, 7}, []int{6}, []int{0, 1}), of(3, []int{4, 5, 7}, []int{6, 8}, []int{0, 1}), of(3, []int{4, 5, 7}, []int{6}, []int{0, 1, 9}),
		of(3, []int{4, 5}, []int{6, 7}, []int{0, 1}), of(3, []int{4, 7}, []int{6}, []int{0, 1, 5}), of(3, []int{4}, []int{6}, []int{0, 1}), of(3, []int{4, 5, 7}, []int{2}, []int{0, 1}), of(3, []int{4, 5, 7}, []int{6}, []int{0}),
		of(3, []int{4, 7, 5}, []int{6}, []int{0, 1}), of(3, []int{7, 5}, []int{6}, []int{1}), of(3, []int{6}, []int{4, 5, 7}, []int{0, 1}),
		of(3, []int{4, 5, 7}, []int{6}), of(3, []int{4, 5, 7}, []int{6}, []int{0, 1}, []int{2}), of(3, []int{4, 5, 7}), of(3, []int{4, 5, 7, 6}, []int{0, 1}),
	)
}

// others are projections that are not alike to next: of another Epoch, with other chains, with a chain more or fewer, with the same units in another order.
func others() []api.Projection {
	var l []api.Projection
	for _, epoch := range []int{0, 3, 5, -1, maxEpoch, -4, 4 + 1<<32, math.MinInt} {
		l = append(l, of(epoch, next().Chains...))
	}
	return append(append(l, bads()...), three(),
		of(4), of(4, []int{5, 7, 8}, []int{6, 9}), of(4, []int{6, 9}, []int{1}), of(4, []int{5, 7, 8}, []int{6, 9}, []int{1}, []int{2}), of(4, []int{5, 7, 8}, []int{6, 9}, []int{1}, nil), of(4, nil, nil, nil),
		of(4, []int{5, 7, 8}, []int{6, 9}, []int{2}), of(4, []int{5, 7, 10}, []int{6, 9}, []int{1}), of(4, []int{4, 7, 8}, []int{6, 9}, []int{1}), of(4, []int{5, 7}, []int{6, 9}, []int{1}), of(4, []int{5, 7, 8}, []int{6, 9}, []int{1, 10}), of(4, []int{5, 7, 8}, []int{6}, []int{1}), of(4, []int{5, 7, 8}, []int{6, 9}, nil),
		of(4, []int{7, 5, 8}, []int{6, 9}, []int{1}), of(4, []int{5, 8, 7}, []int{6, 9}, []int{1}), of(4, []int{5, 7, 8}, []int{9, 6}, []int{1}), of(4, []int{1}, []int{6, 9}, []int{5, 7, 8}), of(4, []int{5, 7}, []int{8, 6, 9}, []int{1}), of(4, []int{5, 7, 8, 6, 9, 1}), of(4, []int{5}, []int{7, 8, 6, 9}, []int{1}),
	)
}

// copied is p in new memory.
func copied(p api.Projection) api.Projection {
	p.Chains = slices.Clone(p.Chains)
	for i, chain := range p.Chains {
		p.Chains[i] = slices.Clone(chain)
	}
	return p
}

// alike tells if two projections are one; a nil list is one with an empty one.
func alike(p, q api.Projection) bool {
	if p.Epoch != q.Epoch || len(p.Chains) != len(q.Chains) {
		return false
	}
	for i, chain := range p.Chains {
		if !slices.Equal(chain, q.Chains[i]) {
			return false
		}
	}
	return true
}

// codes are all Codes of api, and numbers that are none.
var codes = []api.Errno{
	api.OK, api.ErrArg, api.ErrLong, api.ErrMany, api.ErrShort, api.ErrForm, api.ErrSum, api.ErrSealed, api.ErrWritten, api.ErrUnwrit, api.ErrTrimmed, api.ErrFull, api.ErrDown, api.ErrJunk, api.ErrNoOrder, api.ErrNext,
	api.ErrNone, api.ErrTwice, api.ErrNotDir, api.ErrIsDir, api.ErrFilled, api.ErrInside, api.ErrLinks, api.ErrSpace, api.ErrHandle, api.ErrTime, api.ErrBusy, api.ErrLine,
	-1, 4, 39, 49, -40, -45, -48, 256, 256 + 40, 256 + 45, 256 + 48, 65536 + 40, 65536 + 48, 1<<32 + 40, 1<<32 + 45, 1<<32 + 48, 1 << 32, -1 << 32, math.MaxInt, math.MinInt,
}

// code is an answer that tells no more than a Code; sealed, down and ok are such ones.
func code(err api.Errno) api.Answer { return api.Answer{Code: int(err)} }

var sealed, down, ok = code(api.ErrSealed), code(api.ErrDown), code(api.OK)

// number is what a unit answers that is sealed.
func number(n int) api.Answer { return api.Answer{N: n} }

// plan is what the layout answers.
func plan(p api.Projection) api.Answer { return api.Answer{P: p} }

// refused is what the layout answers to a Change that may not be.
func refused(p api.Projection) api.Answer { return api.Answer{Code: int(api.ErrNext), P: p} }

// elder is what a node answers that is in the epoch, and that the question is too old for.
func elder(epoch int) api.Answer { return api.Answer{Code: int(api.ErrSealed), Epoch: epoch} }

// filled is an answer with that Code that has something in each field.
func filled(err api.Errno, p api.Projection) api.Answer {
	return api.Answer{Code: int(err), N: 13, Data: "r", P: p, Mark: 3, Size: 4, Epoch: p.Epoch}
}

func layoutAsk() api.Ask { return api.Ask{Kind: api.AskLayout} }

func sealAsk(epoch, unit int) api.Ask {
	return api.Ask{Kind: api.AskSeal, Unit: unit, Epoch: epoch}
}

func changeAsk(q api.Projection) api.Ask { return api.Ask{Kind: api.AskChange, P: q} }

func startAsk(epoch, tail int) api.Ask {
	return api.Ask{Kind: api.AskStart, Epoch: epoch, Page: tail}
}

func asked(a api.Ask) string {
	return fmt.Sprintf("kind %d to unit %d of epoch %d with page %d, size %d, N %d, %.20q, %.100s", a.Kind, a.Unit, a.Epoch, a.Page, a.Size, a.N, a.Data, fmt.Sprint(a.P))
}

func told(a api.Answer) string {
	return fmt.Sprintf("code %d, N %d, %.20q, epoch %d, %.100s", a.Code, a.N, a.Data, a.Epoch, fmt.Sprint(a.P))
}
