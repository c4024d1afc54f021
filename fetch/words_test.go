package fetch_test

import (
	"fmt"
	"math"
	"reflect"
	"slices"
	"strings"
	"testing"

	"escheat/api"
	"escheat/fetch"
)

// The words of the chapter, told in another way than the program's: a table of what each Code comes to at each place, and all that was heard so far, out of which follows what was found.

const (
	maxUnits  = 16
	maxPages  = 4096
	maxRecord = 4096
	maxAddr   = 16384
	maxEpoch  = 1<<31 - 1
)

// longest is a text of as many bytes as a record may have.
var longest = strings.Repeat("x", maxRecord)

// row is what each Code comes to, and what all others do.
type row struct {
	named map[api.Errno]string
	other string
}

// words are the chapter's, by the place where a Code is heard; a chain's last unit that is its only one is a place of its own.
var words = map[string]row{
	"layout": {map[api.Errno]string{api.OK: "any P", api.ErrDown: "stay", api.ErrSealed: "layout"}, "stay"},
	"check":  {map[api.Errno]string{api.OK: "P of another Epoch", api.ErrDown: "stay", api.ErrSealed: "layout"}, "back"},
	"last":   {map[api.Errno]string{api.OK: "text", api.ErrDown: "check", api.ErrSealed: "layout", api.ErrJunk: "junk there", api.ErrTrimmed: "trimmed", api.ErrUnwrit: "first"}, "over"},
	"only":   {map[api.Errno]string{api.OK: "text", api.ErrDown: "check", api.ErrSealed: "layout", api.ErrJunk: "junk there", api.ErrTrimmed: "trimmed", api.ErrUnwrit: "nothing there"}, "over"},
	"first":  {map[api.Errno]string{api.OK: "on", api.ErrDown: "check", api.ErrSealed: "layout", api.ErrJunk: "on", api.ErrTrimmed: "trimmed", api.ErrUnwrit: "nothing there"}, "over"},
	"junk":   {map[api.Errno]string{api.OK: "on", api.ErrDown: "check", api.ErrSealed: "layout", api.ErrWritten: "first", api.ErrTrimmed: "trimmed"}, "over"},
	"mend":   {map[api.Errno]string{api.OK: "on", api.ErrDown: "check", api.ErrSealed: "layout", api.ErrWritten: "on", api.ErrTrimmed: "trimmed"}, "over"},
	"over":   {nil, "stay"},
}

// spot is where a fetch is: a place's name, at mend (and check, which came from was) the unit of the chain, and over what it tells.
type spot struct {
	name, was string
	i         int
	kind      int
	text      string
	err       api.Errno
}

// turn is an answer, or none, and where it was heard.
type turn struct {
	at    string
	x     api.Answer
	heard bool
}

// model is a fetch by the words.
type model struct {
	p     api.Projection
	addr  int
	fill  bool
	at    spot
	turns []turn
}

func newModel(p api.Projection, addr int, fill bool) *model {
	m := &model{p: copied(p), addr: addr, fill: fill, at: spot{name: "last"}}
	if !isGood(p) || addr < 0 || addr >= maxAddr {
		m.at = spot{name: "over", err: api.ErrArg}
	}
	return m
}

func (m *model) chain() []int { return m.p.Chains[m.addr%len(m.p.Chains)] }

// row is the words for where it is.
func (m *model) row() row {
	if m.at.name == "last" && len(m.chain()) == 1 {
		return words["only"]
	}
	return words[m.at.name]
}

func (m *model) ask() (api.Ask, bool) {
	switch m.at.name {
	case "over":
		return api.Ask{}, false
	case "layout", "check":
		return layoutAsk(), true
	}
	q := readAsk(m.p.Epoch, m.chain()[m.at.i], m.addr/len(m.p.Chains))
	kind, text := m.found()
	switch {
	case m.at.name == "last":
		q.Unit = m.chain()[len(m.chain())-1]
	case m.at.name == "junk", m.at.name == "mend" && kind == api.Junk:
		q.Kind = api.AskFill
	case m.at.name == "mend":
		q.Kind, q.Data = api.AskWrite, text
	}
	return q, true
}

// found is what was found last, by all that was heard.
func (m *model) found() (int, string) {
	for _, h := range slices.Backward(m.turns) {
		code := api.Errno(h.x.Code)
		switch {
		case !h.heard:
		case h.at == "first" && code == api.OK:
			return api.Written, h.x.Data
		case h.at == "first" && code == api.ErrJunk, h.at == "junk" && code == api.OK:
			return api.Junk, ""
		}
	}
	return api.Empty, ""
}

func (m *model) hear(x api.Answer, heard bool) {
	m.turns = append(m.turns, turn{m.at.name, x, heard})
	if !heard {
		return
	}
	r := m.row()
	becomes, ok := r.named[api.Errno(x.Code)]
	if !ok {
		becomes = r.other
	}
	m.become(m.means(becomes, x), x)
}

// means is what becomes of a thing that hangs on more than the Code.
func (m *model) means(becomes string, x api.Answer) string {
	switch becomes {
	case "any P", "P of another Epoch":
		switch {
		case isGood(x.P) && (becomes == "any P" || x.P.Epoch != m.p.Epoch):
			return "new P"
		case becomes == "any P":
			return "stay"
		}
		return "back"
	case "nothing there":
		if m.fill {
			return "junk"
		}
		return "empty"
	case "on":
		if m.at.i+1 == len(m.chain()) {
			return "found"
		}
	}
	return becomes
}

func (m *model) become(becomes string, x api.Answer) {
	switch becomes {
	case "stay":
	case "back":
		m.at.name, m.at.was = m.at.was, ""
	case "check":
		m.at.was, m.at.name = m.at.name, "check"
	case "layout", "first", "junk":
		m.at = spot{name: becomes}
	case "new P":
		m.p, m.at = copied(x.P), spot{name: "last"}
	case "on":
		m.at = spot{name: "mend", i: m.at.i + 1}
	case "found":
		m.at = spot{name: "over"}
		m.at.kind, m.at.text = m.found()
	case "text":
		m.at = spot{name: "over", kind: api.Written, text: x.Data}
	case "junk there":
		m.at = spot{name: "over", kind: api.Junk}
	case "trimmed":
		m.at = spot{name: "over", kind: api.Trimmed}
	case "empty":
		m.at = spot{name: "over", kind: api.Empty}
	case "over":
		m.at = spot{name: "over", err: api.Errno(x.Code)}
	}
}

func (m *model) over() (int, string, api.Errno, bool) {
	return m.at.kind, m.at.text, m.at.err, m.at.name == "over"
}

// both is a fetch, and the same by the words; what both hear comes to the same.
type both struct {
	t testing.TB
	f *fetch.Fetch
	m *model
}

func made(t testing.TB, p api.Projection, addr int, fill bool) both {
	t.Helper()
	b := both{t, fetch.New(p, addr, fill), newModel(p, addr, fill)}
	b.same()
	return b
}

func (b both) hear(x api.Answer, heard bool) {
	b.t.Helper()
	was := b.m.at
	b.m.hear(x, heard)
	b.f.Hear(x, heard)
	if !b.isSame() {
		b.t.Errorf("behind %s, heard %v, at %.99s it is not at %.99s, but %s", told(x), heard, fmt.Sprint(was), fmt.Sprint(b.m.at), show(b.f))
	}
}

// answers lets both hear these.
func (b both) answers(l ...api.Answer) {
	b.t.Helper()
	for _, x := range l {
		b.hear(x, true)
	}
}

func (b both) isSame() bool {
	q, asks := b.f.Ask()
	wantQ, wantAsks := b.m.ask()
	kind, text, err, over := b.f.Over()
	wantKind, wantText, wantErr, wantOver := b.m.over()
	return reflect.DeepEqual(q, wantQ) && asks == wantAsks && kind == wantKind && text == wantText && err == wantErr && over == wantOver && alike(b.f.P(), b.m.p)
}

// same holds that both are at the same place, with the same projection.
func (b both) same() {
	b.t.Helper()
	if !b.isSame() {
		b.t.Errorf("it is not at %.99s, but %s", fmt.Sprint(b.m.at), show(b.f))
	}
}

// expectAt holds that both are at this place.
func (b both) expectAt(name string, i int) {
	b.t.Helper()
	b.same()
	if b.m.at.name != name || b.m.at.i != i {
		b.t.Errorf("it is at %.99s, not at %s %d", fmt.Sprint(b.m.at), name, i)
	}
}

// show is all that a fetch tells.
func show(f *fetch.Fetch) string {
	q, asks := f.Ask()
	kind, text, err, over := f.Over()
	return fmt.Sprintf("asks %s, %v; over %d, %.20q, %d, %v; %.200s", asked(q), asks, kind, text, int(err), over, fmt.Sprint(f.P()))
}

// expectAsk holds that it asks just this, and is not over.
func expectAsk(t testing.TB, f *fetch.Fetch, want api.Ask) {
	t.Helper()
	q, ok := f.Ask()
	kind, text, err, over := f.Over()
	if !reflect.DeepEqual(q, want) || !ok || kind != 0 || text != "" || err != api.OK || over {
		t.Errorf("it does not ask %s: %s", asked(want), show(f))
	}
}

// end is what a fetch tells once it is over.
type end struct {
	kind int
	text string
	err  api.Errno
}

var empty, isJunk, gone = end{}, end{kind: api.Junk}, end{kind: api.Trimmed}

func has(text string) end { return end{kind: api.Written, text: text} }

func failed(err api.Errno) end { return end{err: err} }

// endOf is what a fetch tells that is over.
func endOf(t testing.TB, f *fetch.Fetch) end {
	t.Helper()
	kind, text, err, over := f.Over()
	if !over {
		t.Fatalf("it is not over: %s", show(f))
	}
	return end{kind, text, err}
}

// expectOver holds that it is over so, and asks nothing.
func expectOver(t testing.TB, f *fetch.Fetch, want end) {
	t.Helper()
	q, ok := f.Ask()
	kind, text, err, over := f.Over()
	if !reflect.DeepEqual(q, api.Ask{}) || ok || (end{kind, text, err}) != want || !over {
		t.Errorf("it is not over with %d, %.20q, %d: %s", want.kind, want.text, int(want.err), show(f))
	}
}

func expectP(t testing.TB, f *fetch.Fetch, want api.Projection) {
	t.Helper()
	if got := f.P(); !alike(got, want) {
		t.Errorf("its projection is %.200s, not %.200s", fmt.Sprint(got), fmt.Sprint(want))
	}
}

// isGood tells if p is a good projection, by the words of its chapter.
func isGood(p api.Projection) bool {
	stand := map[int]int{}
	for _, chain := range p.Chains {
		for _, u := range chain {
			stand[u]++
		}
		if len(chain) < 1 || len(chain) > 4 {
			return false
		}
	}
	for u, times := range stand {
		if u < 0 || u >= maxUnits || times > 1 {
			return false
		}
	}
	return p.Epoch >= 0 && p.Epoch <= maxEpoch && len(p.Chains) >= 1 && len(p.Chains) <= 4
}

// bads are projections that are not good, each way in which one is not.
func bads() []api.Projection {
	var l []api.Projection
	for _, epoch := range []int{-1, -2, maxEpoch + 1, maxEpoch + 2, 1 << 32, -1 << 31, -1 << 32, math.MaxInt, math.MinInt} {
		l = append(l, of(epoch, []int{0, 1}, []int{2}))
	}
	l = append(l, api.Projection{}, of(3), of(3, [][]int{}...), of(3, []int{0}, []int{1}, []int{2}, []int{3}, []int{4}), of(3, slices.Repeat([][]int{{5}}, 40)...))
	l = append(l, of(3, nil), of(3, []int{}), of(3, []int{}, []int{0, 1}), of(3, []int{0, 1}, nil), of(3, []int{0}, []int{}, []int{1}), of(3, []int{0, 1, 2, 3, 4}), of(3, []int{9}, []int{0, 1, 2, 3, 4}))
	for _, u := range []int{-1, maxUnits, maxUnits + 1, 255, 256, 1 << 32, -1 << 32, math.MaxInt, math.MinInt} {
		l = append(l, of(3, []int{u}), of(3, []int{u, 1}, []int{2}), of(3, []int{0, 1}, []int{2, u}))
	}
	return append(l, of(3, []int{0, 0}), of(3, []int{0, 1, 0}), of(3, []int{0, 1}, []int{2, 1}), of(3, []int{0}, []int{2}, []int{0}), of(3, []int{0, 1, 2, 3}, []int{4, 5, 6, 7}, []int{8, 9, 10, 11}, []int{12, 13, 14, 0}))
}

// goods are projections of one to four chains, of one to four units.
func goods() []api.Projection {
	return []api.Projection{
		of(0, []int{0}), of(3, []int{4, 5}), of(maxEpoch, []int{15}), of(1, []int{2, 0, 1}), of(2, []int{3, 2, 1, 0}), of(9, []int{4, 5}, []int{6}), of(7, []int{0}, []int{15, 14, 13, 12}),
		of(0, []int{9, 3}, []int{1, 2, 0}, []int{8}), of(1<<30, []int{0, 1, 2, 3}, []int{4, 5, 6, 7}, []int{8, 9, 10, 11}, []int{15, 14, 13, 12}),
	}
}

// of is the projection of these chains in the epoch.
func of(epoch int, chains ...[]int) api.Projection {
	return api.Projection{Epoch: epoch, Chains: chains}
}

// copied is p in new memory.
func copied(p api.Projection) api.Projection {
	p.Chains = slices.Clone(p.Chains)
	for i, chain := range p.Chains {
		p.Chains[i] = slices.Clone(chain)
	}
	return p
}

// alike tells if two projections are one; a nil list is one with an empty one.
func alike(p, q api.Projection) bool {
	return p.Epoch == q.Epoch && slices.EqualFunc(p.Chains, q.Chains, slices.Equal[[]int])
}

// code is an answer that tells no more than a Code.
func code(err api.Errno) api.Answer { return api.Answer{Code: int(err)} }

// data is what Read answers.
func data(s string) api.Answer { return api.Answer{Data: s} }

// plan is what the layout answers.
func plan(p api.Projection) api.Answer { return api.Answer{P: p} }

// ok is what Write and Fill answer.
var ok = api.Answer{}

func layoutAsk() api.Ask { return api.Ask{Kind: api.AskLayout} }

func readAsk(epoch, unit, page int) api.Ask {
	return api.Ask{Kind: api.AskRead, Unit: unit, Epoch: epoch, Page: page}
}

func fillAsk(epoch, unit, page int) api.Ask {
	return api.Ask{Kind: api.AskFill, Unit: unit, Epoch: epoch, Page: page}
}

func writeAsk(epoch, unit, page int, text string) api.Ask {
	return api.Ask{Kind: api.AskWrite, Unit: unit, Epoch: epoch, Page: page, Data: text}
}

// mendAsk is what is asked at mend, of a text that was found, or of junk.
func mendAsk(found end, epoch, unit, page int) api.Ask {
	if found == isJunk {
		return fillAsk(epoch, unit, page)
	}
	return writeAsk(epoch, unit, page, found.text)
}

func asked(a api.Ask) string {
	return fmt.Sprintf("kind %d to unit %d of epoch %d with page %d, size %d, N %d, %.20q, %.100s", a.Kind, a.Unit, a.Epoch, a.Page, a.Size, a.N, a.Data, fmt.Sprint(a.P))
}

func told(a api.Answer) string {
	return fmt.Sprintf("code %d, N %d, %.20q, %.100s", a.Code, a.N, a.Data, fmt.Sprint(a.P))
}
