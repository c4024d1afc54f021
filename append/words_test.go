package append_test

import (
	"fmt"
	"math"
	"reflect"
	"slices"
	"strings"
	"testing"

	"escheat/api"
	log "escheat/append"
)

// The words of the chapter, told in another way than the program's: a table of what each Code comes to at each place, and all that was heard so far, out of which follows what a full log comes to.

const (
	maxUnits  = 16
	maxPages  = 4096
	maxRecord = 4096
	maxAddr   = 16384
	maxEpoch  = 1<<31 - 1
)

// Texts of as many bytes as a record may have, and of one more.
var (
	longest = strings.Repeat("x", maxRecord)
	longer  = longest + "x"
)

// row is what each Code comes to, and what all others do.
type row struct {
	named map[api.Errno]string
	other string
}

// words are the chapter's, by the place where a Code is heard.
var words = map[string]row{
	"layout": {map[api.Errno]string{api.OK: "any P", api.ErrNoOrder: "stay", api.ErrDown: "stay", api.ErrSealed: "layout"}, "stay"},
	"check":  {map[api.Errno]string{api.OK: "P of another Epoch", api.ErrNoOrder: "stay", api.ErrDown: "stay", api.ErrSealed: "layout"}, "back"},
	"token":  {map[api.Errno]string{api.OK: "N", api.ErrNoOrder: "stay", api.ErrDown: "stay", api.ErrSealed: "layout", api.ErrFull: "full"}, "stay"},
	"write":  {map[api.Errno]string{api.OK: "on", api.ErrNoOrder: "stay", api.ErrDown: "check", api.ErrSealed: "layout", api.ErrWritten: "look", api.ErrTrimmed: "token", api.ErrFull: "full"}, "over"},
	"look":   {map[api.Errno]string{api.OK: "Data", api.ErrNoOrder: "stay", api.ErrDown: "check", api.ErrSealed: "layout", api.ErrJunk: "token", api.ErrTrimmed: "token", api.ErrUnwrit: "write"}, "over"},
	"over":   {nil, "stay"},
}

// spot is where an append is: a place's name, at write and look (and check, which came from was) the unit of the chain and the address.
type spot struct {
	name, was string
	i, addr   int
	err       api.Errno
}

// turn is an answer, or none, and where it was heard.
type turn struct {
	at    spot
	code  api.Errno
	heard bool
}

// model is an append by the words.
type model struct {
	p     api.Projection
	rec   string
	at    spot
	turns []turn
}

func newModel(p api.Projection, rec string) *model {
	m := &model{p: copied(p), rec: strings.Clone(rec), at: spot{name: "token"}}
	switch {
	case !isGood(p):
		m.at = spot{name: "over", err: api.ErrArg}
	case len(rec) > maxRecord:
		m.at = spot{name: "over", err: api.ErrLong}
	}
	return m
}

func (m *model) chain() []int { return m.p.Chains[m.at.addr%len(m.p.Chains)] }

func (m *model) ask() (api.Ask, bool) {
	to := api.Ask{Epoch: m.p.Epoch}
	switch m.at.name {
	case "layout", "check":
		return api.Ask{Kind: api.AskLayout}, true
	case "token":
		to.Kind = api.AskNext
	case "write":
		to.Kind, to.Unit, to.Page, to.Data = api.AskWrite, m.chain()[m.at.i], m.at.addr/len(m.p.Chains), m.rec
	case "look":
		to.Kind, to.Unit, to.Page = api.AskRead, m.chain()[m.at.i], m.at.addr/len(m.p.Chains)
	default:
		return api.Ask{}, false
	}
	return to, true
}

func (m *model) hear(x api.Answer, heard bool) {
	code := api.Errno(x.Code)
	m.turns = append(m.turns, turn{m.at, code, heard})
	if !heard {
		return
	}
	r := words[m.at.name]
	becomes, ok := r.named[code]
	if !ok {
		becomes = r.other
	}
	m.become(m.means(becomes, x), x)
}

// means is what becomes of a thing that hangs on more than the Code.
func (m *model) means(becomes string, x api.Answer) string {
	switch becomes {
	case "any P", "P of another Epoch":
		switch {
		case isGood(x.P) && (becomes == "any P" || x.P.Epoch != m.p.Epoch):
			return "new P"
		case becomes == "any P":
			return "stay"
		}
		return "back"
	case "N":
		if x.N < 0 || x.N >= maxAddr {
			return "stay"
		}
		return "first"
	case "Data":
		if x.Data != m.rec {
			return "token"
		}
		return "on"
	}
	return becomes
}

func (m *model) become(becomes string, x api.Answer) {
	switch becomes {
	case "stay":
	case "back":
		m.at.name, m.at.was = m.at.was, ""
	case "check":
		m.at.was, m.at.name = m.at.name, "check"
	case "write", "look":
		m.at.name = becomes
	case "layout", "token":
		m.at = spot{name: becomes}
	case "new P":
		m.p, m.at = copied(x.P), spot{name: "token"}
	case "first":
		m.at = spot{name: "write", addr: x.N}
	case "on":
		if m.at.i+1 == len(m.chain()) {
			m.at = spot{name: "over", addr: m.at.addr}
			return
		}
		m.at.name, m.at.i = "write", m.at.i+1
	case "full":
		m.at = spot{name: "over", err: m.full()}
	case "over":
		m.at = spot{name: "over", err: api.Errno(x.Code)}
	}
}

// full is what a full log comes to behind all that was heard.
func (m *model) full() api.Errno {
	for _, h := range m.turns {
		if h.at.name == "write" && (!h.heard || h.code == api.OK) {
			return api.ErrTime
		}
	}
	return api.ErrFull
}

func (m *model) over() (int, api.Errno, bool) {
	if m.at.name != "over" {
		return 0, api.OK, false
	}
	return m.at.addr, m.at.err, true
}

// both is an append, and the same by the words; what both hear comes to the same.
type both struct {
	t testing.TB
	a *log.Append
	m *model
}

func made(t testing.TB, p api.Projection, rec string) both {
	t.Helper()
	b := both{t, log.New(p, rec), newModel(p, rec)}
	b.same()
	return b
}

func (b both) hear(x api.Answer, heard bool) {
	b.t.Helper()
	was := b.m.at
	b.m.hear(x, heard)
	b.a.Hear(x, heard)
	if !b.isSame() {
		b.t.Errorf("behind %s, heard %v, at %+v it is not at %+v, but %s", told(x), heard, was, b.m.at, show(b.a))
	}
}

// answers lets both hear these.
func (b both) answers(l ...api.Answer) {
	b.t.Helper()
	for _, x := range l {
		b.hear(x, true)
	}
}

func (b both) isSame() bool {
	q, asks := b.a.Ask()
	wantQ, wantAsks := b.m.ask()
	addr, err, over := b.a.Over()
	wantAddr, wantErr, wantOver := b.m.over()
	return reflect.DeepEqual(q, wantQ) && asks == wantAsks && addr == wantAddr && err == wantErr && over == wantOver && alike(b.a.P(), b.m.p)
}

// same holds that both are at the same place, with the same projection.
func (b both) same() {
	b.t.Helper()
	if !b.isSame() {
		b.t.Errorf("it is not at %+v, but %s", b.m.at, show(b.a))
	}
}

// expectAt holds that both are at this place.
func (b both) expectAt(name string, i, addr int) {
	b.t.Helper()
	b.same()
	if b.m.at.name != name || b.m.at.i != i || b.m.at.addr != addr {
		b.t.Errorf("it is at %+v, not at %s %d with address %d", b.m.at, name, i, addr)
	}
}

// show is all that an append tells.
func show(a *log.Append) string {
	q, asks := a.Ask()
	addr, err, over := a.Over()
	return fmt.Sprintf("asks %s, %v; over %d, %d, %v; %.200s", asked(q), asks, addr, err, over, fmt.Sprint(a.P()))
}

// expectAsk holds that it asks just this, and is not over.
func expectAsk(t testing.TB, a *log.Append, want api.Ask) {
	t.Helper()
	q, ok := a.Ask()
	addr, err, over := a.Over()
	if !reflect.DeepEqual(q, want) || !ok || addr != 0 || err != api.OK || over {
		t.Errorf("it does not ask %s: %s", asked(want), show(a))
	}
}

// expectOver holds that it is over so, and asks nothing.
func expectOver(t testing.TB, a *log.Append, addr int, err api.Errno) {
	t.Helper()
	q, ok := a.Ask()
	n, e, over := a.Over()
	if !reflect.DeepEqual(q, api.Ask{}) || ok || n != addr || e != err || !over {
		t.Errorf("it is not over with %d, %v: %s", addr, err, show(a))
	}
}

func expectP(t testing.TB, a *log.Append, want api.Projection) {
	t.Helper()
	if got := a.P(); !alike(got, want) {
		t.Errorf("its projection is %.200s, not %.200s", fmt.Sprint(got), fmt.Sprint(want))
	}
}

// isGood tells if p is a good projection, by the words of its chapter.
func isGood(p api.Projection) bool {
	stand := map[int]int{}
	for _, chain := range p.Chains {
		for _, u := range chain {
			stand[u]++
		}
		if len(chain) < 1 || len(chain) > 4 {
			return false
		}
	}
	for u, times := range stand {
		if u < 0 || u >= maxUnits || times > 1 {
			return false
		}
	}
	return p.Epoch >= 0 && p.Epoch <= maxEpoch && len(p.Chains) >= 1 && len(p.Chains) <= 4
}

// bads are projections that are not good, each way in which one is not.
func bads() []api.Projection {
	var l []api.Projection
	for _, epoch := range []int{-1, -2, maxEpoch + 1, maxEpoch + 2, 1 << 32, -1 << 31, -1 << 32, math.MaxInt, math.MinInt} {
		l = append(l, of(epoch, []int{0, 1}, []int{2}))
	}
	l = append(l, api.Projection{}, of(3), of(3, [][]int{}...), of(3, []int{0}, []int{1}, []int{2}, []int{3}, []int{4}), of(3, slices.Repeat([][]int{{5}}, 40)...))
	l = append(l, of(3, nil), of(3, []int{}), of(3, []int{}, []int{0, 1}), of(3, []int{0, 1}, nil), of(3, []int{0}, []int{}, []int{1}), of(3, []int{0, 1, 2, 3, 4}), of(3, []int{9}, []int{0, 1, 2, 3, 4}))
	for _, u := range []int{-1, maxUnits, maxUnits + 1, 255, 256, 1 << 32, -1 << 32, math.MaxInt, math.MinInt} {
		l = append(l, of(3, []int{u}), of(3, []int{u, 1}, []int{2}), of(3, []int{0, 1}, []int{2, u}))
	}
	return append(l, of(3, []int{0, 0}), of(3, []int{0, 1, 0}), of(3, []int{0, 1}, []int{2, 1}), of(3, []int{0}, []int{2}, []int{0}), of(3, []int{0, 1, 2, 3}, []int{4, 5, 6, 7}, []int{8, 9, 10, 11}, []int{12, 13, 14, 0}))
}

// goods are projections of one to four chains, of one to four units.
func goods() []api.Projection {
	return []api.Projection{
		of(0, []int{0}), of(3, []int{4, 5}), of(maxEpoch, []int{15}), of(1, []int{2, 0, 1}), of(2, []int{3, 2, 1, 0}), of(9, []int{4, 5}, []int{6}), of(7, []int{0}, []int{15, 14, 13, 12}),
		of(0, []int{9, 3}, []int{1, 2, 0}, []int{8}), of(1<<30, []int{0, 1, 2, 3}, []int{4, 5, 6, 7}, []int{8, 9, 10, 11}, []int{15, 14, 13, 12}),
	}
}

// of is the projection of these chains in the epoch.
func of(epoch int, chains ...[]int) api.Projection {
	return api.Projection{Epoch: epoch, Chains: chains}
}

// copied is p in new memory.
func copied(p api.Projection) api.Projection {
	p.Chains = slices.Clone(p.Chains)
	for i, chain := range p.Chains {
		p.Chains[i] = slices.Clone(chain)
	}
	return p
}

// alike tells if two projections are one; a nil list is one with an empty one.
func alike(p, q api.Projection) bool {
	return p.Epoch == q.Epoch && slices.EqualFunc(p.Chains, q.Chains, slices.Equal[[]int])
}

// code is an answer that tells no more than a Code.
func code(err api.Errno) api.Answer { return api.Answer{Code: int(err)} }

// number is what Next answers.
func number(n int) api.Answer { return api.Answer{N: n} }

// data is what Read answers.
func data(s string) api.Answer { return api.Answer{Data: s} }

// plan is what the layout answers.
func plan(p api.Projection) api.Answer { return api.Answer{P: p} }

// ok is what Write answers.
var ok = api.Answer{}

func layoutAsk() api.Ask { return api.Ask{Kind: api.AskLayout} }

func nextAsk(epoch int) api.Ask { return api.Ask{Kind: api.AskNext, Epoch: epoch} }

func writeAsk(epoch, unit, page int, rec string) api.Ask {
	return api.Ask{Kind: api.AskWrite, Unit: unit, Epoch: epoch, Page: page, Data: rec}
}

func readAsk(epoch, unit, page int) api.Ask {
	return api.Ask{Kind: api.AskRead, Unit: unit, Epoch: epoch, Page: page}
}

func asked(a api.Ask) string {
	return fmt.Sprintf("kind %d to unit %d of epoch %d with page %d, size %d, N %d, %.20q, %.100s", a.Kind, a.Unit, a.Epoch, a.Page, a.Size, a.N, a.Data, fmt.Sprint(a.P))
}

func told(a api.Answer) string {
	return fmt.Sprintf("code %d, N %d, %.20q, %.100s", a.Code, a.N, a.Data, fmt.Sprint(a.P))
}
