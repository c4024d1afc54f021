package append_test

import (
	"reflect"
	"runtime"
	"slices"
	"strings"
	"testing"
	"unsafe"

	"escheat/api"
	log "escheat/append"
)

// scribbleOver writes over all lists of p, and their spare room.
func scribbleOver(p api.Projection) {
	l := p.Chains[:cap(p.Chains)]
	for i, chain := range l {
		chain = chain[:cap(chain)]
		for j := range chain {
			chain[j] = 14
		}
		l[i] = []int{13}
	}
}

// roomy is p in lists that have spare room, in which there is something.
func roomy(p api.Projection) api.Projection {
	q := of(p.Epoch, make([][]int, 0, len(p.Chains)+3)...)
	for _, chain := range append(slices.Clone(p.Chains), []int{1, 2}, []int{3}, nil) {
		q.Chains = append(q.Chains, append(append(make([]int, 0, len(chain)+3), chain...), 4, 5, 6)[:len(chain)])
	}
	q.Chains = q.Chains[:len(p.Chains)]
	return q
}

// room is all of p with the spare room of its lists.
func room(p api.Projection) api.Projection {
	q := of(p.Epoch, slices.Clone(p.Chains[:cap(p.Chains)])...)
	for i, chain := range q.Chains {
		q.Chains[i] = slices.Clone(chain[:cap(chain)])
	}
	return q
}

// expectRoom holds that p is as it was, its spare room included.
func expectRoom(t *testing.T, p, before api.Projection) {
	t.Helper()
	if got := room(p); !reflect.DeepEqual(got, before) {
		t.Errorf("what was handed over is %v, not %v", got, before)
	}
}

// P15.1: what New was handed is the caller's, whatever is heard and asked then, and may be written over, whether it is good or not.
func TestHandedToNew(t *testing.T) {
	for _, p := range slices.Concat(goods(), bads(), []api.Projection{three()}) {
		for _, over := range []int{0, 1} {
			given := roomy(p)
			before := room(given)
			b := both{t, log.New(given, "r"), newModel(p, "r")}
			if over == 1 {
				scribbleOver(given)
				before = room(given)
			}
			b.same()
			b.answers(number(9), ok, down, plan(p), ok, sealed, plan(next()), number(0), ok, ok, ok)
			b.same()
			expectRoom(t, given, before)
		}
	}
}

// P15.3: what Hear was handed is the caller's, at each place, and may be written over, its spare room too: what is its projection then stays as it was heard.
func TestHandedToHear(t *testing.T) {
	for _, w := range ways() {
		for _, x := range alphabet() {
			b := w.made(t)
			want := copied(x.P)
			x.P = roomy(x.P)
			before := room(x.P)
			b.hear(x, true)
			b.answers(number(9), ok, down)
			expectRoom(t, x.P, before)
			scribbleOver(x.P)
			b.same()
			b.answers(plan(want), number(1), ok, down)
			b.same()
			scribbleOver(b.a.P())
			b.answers(plan(of(5, []int{3}, []int{2})), number(1), ok)
			b.same()
		}
	}
}

// P15.3: at layout and at check: the answer is written over, and each unit is asked that was heard.
func TestHeardIsNotKept(t *testing.T) {
	for _, asks := range [][]api.Answer{{sealed}, {number(9), down}, {number(9), ok, written, down}} {
		a := log.New(three(), "r")
		for _, x := range asks {
			a.Hear(x, true)
		}
		x := plan(roomy(next()))
		a.Hear(x, true)
		for _, s := range []step{to(nextAsk(4), number(6)), to(writeAsk(4, 5, 2, "r"), ok), to(writeAsk(4, 7, 2, "r"), ok), to(writeAsk(4, 8, 2, "r"), ok)} {
			scribbleOver(x.P)
			expectP(t, a, next())
			expectAsk(t, a, s.q)
			a.Hear(s.x, s.heard)
		}
		expectOver(t, a, 6, api.OK)
	}
}

// P15.1: what P told may be written over, its spare room too, and gone on with; what it told is not changed by what comes behind it.
func TestPApart(t *testing.T) {
	for _, w := range ways() {
		b := w.made(t)
		kept := b.a.P()
		for _, x := range []api.Answer{plan(next()), sealed, plan(next()), number(1), ok} {
			p := b.a.P()
			p.Chains = append(p.Chains, []int{9})
			for i := range p.Chains {
				p.Chains[i] = append(p.Chains[i], 9)
			}
			scribbleOver(p)
			scribbleOver(b.a.P())
			b.same()
			b.answers(x)
		}
		if !alike(kept, three()) {
			t.Errorf("what P told is %v", kept)
		}
		scribbleOver(kept)
		b.same()
	}
}

// P15.1: no two lists that P told share memory, their spare room included.
func TestPLists(t *testing.T) {
	for _, p := range slices.Concat(goods(), bads()) {
		met, lists := map[*int]int{}, map[*[]int]int{}
		given := roomy(p)
		a := log.New(given, "r")
		for _, q := range []api.Projection{given, a.P(), a.P()} {
			chains := q.Chains[:cap(q.Chains)]
			for i, chain := range chains {
				lists[&chains[i]]++
				chain = chain[:cap(chain)]
				for j := range chain {
					met[&chain[j]]++
				}
			}
		}
		for _, times := range lists {
			if times > 1 {
				t.Errorf("two lists of chains are one")
			}
		}
		for _, times := range met {
			if times > 1 {
				t.Errorf("two chains are one")
			}
		}
	}
}

// P15.2: the record of a question is neither what New was handed, nor that of another question; each may be written over.
func TestTexts(t *testing.T) {
	bytes := []byte("hello")
	a := log.New(three(), unsafe.String(&bytes[0], len(bytes)))
	copy(bytes, "later")
	a.Hear(number(9), true)
	one, _ := a.Ask()
	other, _ := a.Ask()
	if one.Data != "hello" || other.Data != "hello" || unsafe.StringData(one.Data) == unsafe.StringData(other.Data) {
		t.Fatalf("it asks %q and %q", one.Data, other.Data)
	}
	copy(unsafe.Slice(unsafe.StringData(one.Data), len(one.Data)), "never")
	expectAsk(t, a, writeAsk(3, 4, 3, "hello"))
	if other.Data != "hello" || string(bytes) != "later" {
		t.Errorf("it asked %q, and what was handed in is %q", other.Data, bytes)
	}
	found := []byte("hello")
	for _, x := range []api.Answer{written, data(unsafe.String(&found[0], len(found)))} {
		a.Hear(x, true)
	}
	copy(found, "later")
	expectAsk(t, a, writeAsk(3, 5, 3, "hello"))
	a.Hear(written, true)
	a.Hear(data("hello"), true)
	expectAsk(t, a, writeAsk(3, 7, 3, "hello"))
}

// P15.1: no more is kept than is asked yet: not the text of which the record is a piece, not the texts that were read, and no record once it is over.
func TestNothingKept(t *testing.T) {
	const size, many = 1 << 23, 4000
	before := inUse()
	var l []*log.Append
	expect := func(what string) {
		t.Helper()
		if more := inUse() - before; more > size/2 {
			t.Errorf("%s: there are %d bytes", what, more)
		}
	}
	text := strings.Repeat("x", size)
	l = append(l, log.New(three(), text[:maxRecord]), log.New(three(), text), log.New(of(3), text[:5]), log.New(of(3), text))
	text = ""
	expect("New")
	l[0].Hear(number(9), true)
	l[0].Hear(written, true)
	l[0].Hear(data(strings.Repeat("y", size)), true)
	l[0].Hear(api.Answer{Code: int(api.ErrNoOrder), Data: strings.Repeat("z", size)}, true)
	expect("Hear")
	expectAsk(t, l[0], nextAsk(3))
	for k := range many {
		a := log.New(of(0, []int{0}), strings.Repeat("x", maxRecord))
		a.Hear(number(9), true)
		a.Hear([]api.Answer{ok, full, code(api.ErrArg)}[k%3], true)
		l = append(l, a)
	}
	expect("over")
	runtime.KeepAlive(l)
}

// inUse is how many bytes are in use.
func inUse() int {
	var m runtime.MemStats
	runtime.GC()
	runtime.GC()
	runtime.ReadMemStats(&m)
	return int(m.HeapAlloc)
}
