package layout_test

import (
	"fmt"
	"math"
	"reflect"
	"slices"
	"testing"

	"escheat/api"
	"escheat/layout"
)

// The words of the chapter, told in another way than the program's: all projections and all images that ever counted, the last one counts.

const (
	maxAddr  = 16384
	maxText  = 65536
	maxEpoch = 2147483647
)

// far are whole numbers far from all that a layout is at.
var far = []int{
	-2, -5, -maxAddr, -maxText, 1 << 20, 1 << 31, 1<<32 + 1, 1<<32 + 9, 1<<32 + 10, -1 << 31, -1<<32 + 11, 1<<62 + 9, -1 << 62,
	math.MaxInt, math.MaxInt - 1, math.MinInt, math.MinInt + 1,
}

// own are the kinds of questions that the layout knows; foreign are those of the units and of the sequencer, and kinds of no one.
var (
	own     = []int{api.AskLayout, api.AskChange, api.AskMark}
	foreign = append([]int{
		0, api.AskWrite, api.AskFill, api.AskRead, api.AskTrim, api.AskSeal, api.AskNext, api.AskTail, api.AskStart, -1, -9, 12, 13, 255, 256 + 9, 256 + 10,
	}, far...)
	kinds = append(append([]int(nil), own...), foreign...)
)

// picture is an image: where it lies, how long it is, and its Next.
type picture struct{ page, size, next int }

// model is a layout by the words.
type model struct {
	counted  []api.Projection
	pictures []picture
}

func modelOf(p api.Projection) *model {
	return &model{[]api.Projection{whole(p)}, []picture{{-1, 0, -1}}}
}

func (m *model) now() api.Projection { return m.counted[len(m.counted)-1] }

// used are all units of all projections that counted.
func (m *model) used() []int {
	var l []int
	for u := range 16 {
		if slices.ContainsFunc(m.counted, func(p api.Projection) bool { return stands(p, u) }) {
			l = append(l, u)
		}
	}
	return l
}

func (m *model) do(a api.Ask) api.Answer {
	last := m.pictures[len(m.pictures)-1]
	if a.Kind == 9 {
		return api.Answer{P: m.now(), Mark: last.page, Size: last.size, N: last.next}
	}
	if a.Kind == 10 {
		if !isBehind(m.now(), a.P) || m.comesBack(a.P) {
			return api.Answer{Code: 48, P: m.now()}
		}
		m.counted = append(m.counted, whole(a.P))
		return api.Answer{P: m.now()}
	}
	if a.Kind == 11 && a.Page >= 0 && a.Page < maxAddr && a.Size > 0 && a.Size <= maxText && a.N >= 0 && a.N <= maxAddr {
		if last.next < a.N {
			last = picture{a.Page, a.Size, a.N}
			m.pictures = append(m.pictures, last)
		}
		return api.Answer{Mark: last.page, Size: last.size, N: last.next}
	}
	return api.Answer{Code: 1}
}

// comesBack tells if a unit of p stands nowhere in what counts, and stood in one that counted elder.
func (m *model) comesBack(p api.Projection) bool {
	for _, elder := range m.counted {
		for u := range 16 {
			if stands(p, u) && stands(elder, u) && !stands(m.now(), u) {
				return true
			}
		}
	}
	return false
}

// stands tells if u stands in a chain of p.
func stands(p api.Projection, u int) bool {
	return slices.Contains(slices.Concat(p.Chains...), u)
}

// isGood tells if p is a projection.
func isGood(p api.Projection) bool {
	if p.Epoch < 0 || p.Epoch > maxEpoch || len(p.Chains) == 0 || len(p.Chains) > 4 {
		return false
	}
	var times [16]int
	for _, chain := range p.Chains {
		if len(chain) == 0 || len(chain) > 4 {
			return false
		}
		for _, u := range chain {
			if u < 0 || u > 15 {
				return false
			}
			times[u]++
		}
	}
	return slices.Max(times[:]) == 1
}

// isBehind tells if q may come next behind p.
func isBehind(p, q api.Projection) bool {
	if !isGood(p) || !isGood(q) || p.Epoch != q.Epoch-1 || len(p.Chains) != len(q.Chains) {
		return false
	}
	for i, chain := range q.Chains {
		stay := slices.DeleteFunc(slices.Clone(p.Chains[i]), func(u int) bool { return !slices.Contains(chain, u) })
		if len(stay) == 0 || !slices.Equal(chain[:len(stay)], stay) {
			return false
		}
		if slices.ContainsFunc(chain[len(stay):], func(u int) bool { return stands(p, u) }) {
			return false
		}
	}
	return true
}

// of is the projection of these chains in the epoch.
func of(epoch int, chains ...[]int) api.Projection {
	return api.Projection{Epoch: epoch, Chains: chains}
}

// whole is p in memory of its own.
func whole(p api.Projection) api.Projection {
	q := of(p.Epoch)
	for _, chain := range p.Chains {
		q.Chains = append(q.Chains, slices.Clone(chain))
	}
	return q
}

// both is a layout, and the same by the words; what is asked of both comes to the same.
type both struct {
	t testing.TB
	l *layout.Layout
	m *model
}

func made(t testing.TB, p api.Projection) both {
	t.Helper()
	b := both{t, begun(t, p), modelOf(p)}
	b.same()
	return b
}

// do asks both, and answers what the layout told.
func (b both) do(a api.Ask) api.Answer {
	b.t.Helper()
	want, got := b.m.do(a), b.l.Do(a)
	if !reflect.DeepEqual(got, want) {
		b.t.Errorf("%s: %+v, not %+v", ask(a), got, want)
	}
	b.same()
	return got
}

// same holds that all that a layout shows comes to the same.
func (b both) same() {
	b.t.Helper()
	want := shown{b.m.now(), b.m.used(), b.m.do(lookOf())}
	if got := show(b.l); !reflect.DeepEqual(got, want) {
		b.t.Errorf("it shows %+v, not %+v", got, want)
	}
}

// shown is all that a layout shows without being changed.
type shown struct {
	now  api.Projection
	used []int
	told api.Answer
}

func show(l *layout.Layout) shown {
	return shown{l.Now(), l.Used(), l.Do(lookOf())}
}

func lookOf() api.Ask { return api.Ask{Kind: api.AskLayout} }

func changeOf(p api.Projection) api.Ask { return api.Ask{Kind: api.AskChange, P: p} }

func markOf(page, size, next int) api.Ask {
	return api.Ask{Kind: api.AskMark, Page: page, Size: size, N: next}
}

// begun is the layout of a projection that is good.
func begun(t testing.TB, p api.Projection) *layout.Layout {
	t.Helper()
	l, err := layout.New(p)
	if l == nil || err != api.OK {
		t.Fatalf("%v: %v", p, err)
	}
	return l
}

// through is a layout in which these counted one behind the other.
func through(t testing.TB, first api.Projection, others ...api.Projection) *layout.Layout {
	t.Helper()
	l := begun(t, first)
	for _, p := range others {
		expect(t, l, changeOf(p), api.Answer{P: p})
	}
	return l
}

func expect(t testing.TB, l *layout.Layout, a api.Ask, want api.Answer) {
	t.Helper()
	if got := l.Do(a); !reflect.DeepEqual(got, want) {
		t.Errorf("%s: %+v, not %+v", ask(a), got, want)
	}
}

// expectIdle holds that a question is answered so each time that it is asked, and changes nothing.
func expectIdle(t testing.TB, l *layout.Layout, a api.Ask, want api.Answer) {
	t.Helper()
	before := show(l)
	for range 2 {
		expect(t, l, a, want)
		if after := show(l); !reflect.DeepEqual(after, before) {
			t.Fatalf("%s: it was changed from %+v to %+v", ask(a), before, after)
		}
	}
}

// expectRefused holds that a Change is told ErrNext with the projection that counts, and changes nothing.
func expectRefused(t testing.TB, l *layout.Layout, p api.Projection) {
	t.Helper()
	expectIdle(t, l, changeOf(p), api.Answer{Code: int(api.ErrNext), P: l.Now()})
}

func expectUsed(t testing.TB, l *layout.Layout, want ...int) {
	t.Helper()
	if got := l.Used(); !slices.Equal(got, want) {
		t.Errorf("%v were used, not %v", got, want)
	}
}

// code is an answer that tells no more than a Code.
func code(err api.Errno) api.Answer { return api.Answer{Code: int(err)} }

// marked is an answer with an image.
func marked(page, size, next int) api.Answer {
	return api.Answer{Mark: page, Size: size, N: next}
}

func ask(a api.Ask) string {
	return fmt.Sprintf("kind %d with page %d, size %d, N %d, %.200s", a.Kind, a.Page, a.Size, a.N, fmt.Sprint(a.P))
}
