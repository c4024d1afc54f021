package fetch_test

import (
	"reflect"
	"runtime"
	"slices"
	"strings"
	"testing"
	"unsafe"

	"escheat/api"
	"escheat/fetch"
)

// scribbleOver writes over all lists of p, and their spare room.
func scribbleOver(p api.Projection) {
	l := p.Chains[:cap(p.Chains)]
	for i, chain := range l {
		chain = chain[:cap(chain)]
		for j := range chain {
			chain[j] = 14
		}
		l[i] = []int{13}
	}
}

// roomy is p in lists that have spare room, in which there is something.
func roomy(p api.Projection) api.Projection {
	q := of(p.Epoch, make([][]int, 0, len(p.Chains)+3)...)
	for _, chain := range append(slices.Clone(p.Chains), []int{1, 2}, []int{3}, nil) {
		q.Chains = append(q.Chains, append(append(make([]int, 0, len(chain)+3), chain...), 4, 5, 6)[:len(chain)])
	}
	q.Chains = q.Chains[:len(p.Chains)]
	return q
}

// room is all of p with the spare room of its lists.
func room(p api.Projection) api.Projection {
	q := of(p.Epoch, slices.Clone(p.Chains[:cap(p.Chains)])...)
	for i, chain := range q.Chains {
		q.Chains[i] = slices.Clone(chain[:cap(chain)])
	}
	return q
}

// expectRoom holds that p is as it was, its spare room included.
func expectRoom(t *testing.T, p, before api.Projection) {
	t.Helper()
	if got := room(p); !reflect.DeepEqual(got, before) {
		t.Errorf("what was handed over is %v, not %v", got, before)
	}
}

// P16.1: what New was handed is the caller's, whatever is heard and asked then, and may be written over, whether it is good or not.
func TestHandedToNew(t *testing.T) {
	for _, p := range slices.Concat(goods(), bads(), []api.Projection{three()}) {
		for _, addr := range []int{9, 7, -1} {
			for _, over := range []int{0, 1} {
				given := roomy(p)
				before := room(given)
				b := both{t, fetch.New(given, addr, true), newModel(p, addr, true)}
				if over == 1 {
					scribbleOver(given)
					before = room(given)
				}
				b.same()
				b.answers(unwrit, data("r"), down, plan(p), ok, sealed, plan(next()), unwrit, unwrit, ok, ok, ok)
				b.same()
				expectRoom(t, given, before)
			}
		}
	}
}

// P16.2: what Hear was handed is the caller's, at each place, and may be written over, its spare room too: what is its projection then stays as it was heard.
func TestHandedToHear(t *testing.T) {
	for _, w := range ways() {
		for _, x := range alphabet() {
			b := w.made(t)
			want := copied(x.P)
			x.P = roomy(x.P)
			before := room(x.P)
			b.hear(x, true)
			b.answers(unwrit, unwrit, down)
			expectRoom(t, x.P, before)
			scribbleOver(x.P)
			b.same()
			b.answers(plan(want), unwrit, ok, down)
			b.same()
			scribbleOver(b.f.P())
			b.answers(plan(of(5, []int{3, 6, 1}, []int{2})), unwrit, junk, ok)
			b.same()
		}
	}
}

// P16.2: at layout and at check: the answer is written over, and each unit is asked that was heard.
func TestHeardIsNotKept(t *testing.T) {
	for _, ahead := range [][]api.Answer{{sealed}, {down}, {unwrit, down}, {unwrit, data("r"), ok, down}} {
		f := fetch.New(three(), 9, true)
		for _, x := range ahead {
			f.Hear(x, true)
		}
		x := plan(roomy(next()))
		f.Hear(x, true)
		for _, s := range []step{to(readAsk(4, 8, 3), unwrit), to(readAsk(4, 5, 3), unwrit), to(fillAsk(4, 5, 3), ok), to(fillAsk(4, 7, 3), ok), to(fillAsk(4, 8, 3), ok)} {
			scribbleOver(x.P)
			expectP(t, f, next())
			expectAsk(t, f, s.q)
			f.Hear(s.x, s.heard)
		}
		expectOver(t, f, isJunk)
		expectP(t, f, next())
	}
}

// P16.1: what P told may be written over, its spare room too, and gone on with; what it told is not changed by what comes behind it.
func TestPApart(t *testing.T) {
	for _, w := range ways() {
		b := w.made(t)
		kept := b.f.P()
		for _, x := range []api.Answer{plan(next()), sealed, plan(next()), unwrit, unwrit, ok} {
			p := b.f.P()
			p.Chains = append(p.Chains, []int{9})
			for i := range p.Chains {
				p.Chains[i] = append(p.Chains[i], 9)
			}
			scribbleOver(p)
			scribbleOver(b.f.P())
			b.same()
			b.answers(x)
		}
		if !alike(kept, three()) {
			t.Errorf("what P told is %v", kept)
		}
		scribbleOver(kept)
		b.same()
	}
}

// P16.1: no two lists that P told share memory, with each other or with what was handed in, their spare room included.
func TestPLists(t *testing.T) {
	for _, p := range slices.Concat(goods(), bads()) {
		given, heard := roomy(p), roomy(p)
		f, g := fetch.New(given, 9, true), fetch.New(three(), 9, true)
		g.Hear(sealed, true)
		g.Hear(plan(heard), true)
		met, lists := map[*int]int{}, map[*[]int]int{}
		for _, q := range []api.Projection{given, f.P(), f.P(), heard, g.P(), g.P()} {
			chains := q.Chains[:cap(q.Chains)]
			for i, chain := range chains {
				lists[&chains[i]]++
				chain = chain[:cap(chain)]
				for j := range chain {
					met[&chain[j]]++
				}
			}
		}
		for _, times := range lists {
			if times > 1 {
				t.Errorf("two lists of chains are one")
			}
		}
		for _, times := range met {
			if times > 1 {
				t.Errorf("two chains are one")
			}
		}
	}
}

// hello is a text that may be written over as bytes.
func hello() ([]byte, string) {
	bytes := []byte("hello")
	return bytes, unsafe.String(&bytes[0], len(bytes))
}

// bytesOf are the bytes of a text that was told, to be written over.
func bytesOf(s string) []byte { return unsafe.Slice(unsafe.StringData(s), len(s)) }

// P16.2: the text of a question is neither the one that was heard, nor that of another question, nor what Over tells; each may be written over.
func TestTextsAsked(t *testing.T) {
	bytes, text := hello()
	f := fetch.New(three(), 9, false)
	f.Hear(unwrit, true)
	f.Hear(data(text), true)
	copy(bytes, "later")
	one, _ := f.Ask()
	other, _ := f.Ask()
	if one.Data != "hello" || other.Data != "hello" || unsafe.StringData(one.Data) == unsafe.StringData(other.Data) {
		t.Fatalf("it asks %q and %q", one.Data, other.Data)
	}
	copy(bytesOf(one.Data), "never")
	expectAsk(t, f, writeAsk(3, 5, 3, "hello"))
	if other.Data != "hello" || string(bytes) != "later" {
		t.Errorf("it asked %q, and what was handed in is %q", other.Data, bytes)
	}
	f.Hear(ok, true)
	expectAsk(t, f, writeAsk(3, 7, 3, "hello"))
	last, _ := f.Ask()
	f.Hear(ok, true)
	copy(bytesOf(last.Data), "other")
	expectOver(t, f, has("hello"))
	if other.Data != "hello" {
		t.Errorf("it asked %q", other.Data)
	}
}

// P16.1: the text that Over tells is neither the one that was heard, nor the one that it told ahead; each may be written over.
func TestTextsTold(t *testing.T) {
	for _, ahead := range [][]api.Answer{{}, {unwrit}} {
		bytes, text := hello()
		f := fetch.New(three(), 9, true)
		for _, x := range ahead {
			f.Hear(x, true)
		}
		f.Hear(data(text), true)
		for len(ahead) > 0 && asks(f) {
			f.Hear(ok, true)
		}
		copy(bytes, "later")
		_, one, _, _ := f.Over()
		_, other, _, _ := f.Over()
		if one != "hello" || other != "hello" || unsafe.StringData(one) == unsafe.StringData(other) {
			t.Fatalf("it tells %q and %q", one, other)
		}
		copy(bytesOf(one), "never")
		expectOver(t, f, has("hello"))
		if other != "hello" || string(bytes) != "later" {
			t.Errorf("it told %q, and what was handed in is %q", other, bytes)
		}
	}
}

// asks tells if it asks yet.
func asks(f *fetch.Fetch) bool {
	_, asks := f.Ask()
	return asks
}

// expectLittle holds that behind this no more than so many bytes are kept.
func expectLittle(t *testing.T, what string, before, most int) {
	t.Helper()
	if more := inUse() - before; more > most {
		t.Errorf("%s: there are %d bytes", what, more)
	}
}

// P16.2: no more is kept than is asked or told yet: not the text of which the one that was found is a piece, nor those that were heard beside other Codes.
func TestNoPieceKept(t *testing.T) {
	const size = 1 << 23
	before := inUse()
	var l []*fetch.Fetch
	for _, ahead := range [][]api.Answer{{}, {unwrit}, {unwrit, unwrit}, {unwrit, unwrit, ok}, {sealed}, {unwrit, down}} {
		for _, err := range []api.Errno{api.OK, api.ErrJunk, api.ErrTrimmed, api.ErrUnwrit, api.ErrWritten, api.ErrSealed, api.ErrDown, api.ErrArg} {
			f := fetch.New(three(), 9, true)
			for _, x := range ahead {
				f.Hear(x, true)
			}
			f.Hear(api.Answer{Code: int(err), Data: strings.Repeat("y", size)[:5], P: next()}, true)
			l = append(l, f)
		}
	}
	expectLittle(t, "Hear", before, size/2)
	runtime.KeepAlive(l)
}

// P16.2: what was found is kept no longer, once a layout is asked behind ErrSealed, another projection is learnt, or it is over without it.
func TestNothingKept(t *testing.T) {
	const many = 2000
	for _, behind := range [][]api.Answer{{sealed}, {down, sealed}, {down, plan(next())}, {sealed, plan(three())}, {trimmed}, {full}, {ok, code(api.ErrArg)}} {
		before := inUse()
		var l []*fetch.Fetch
		for range many {
			f := fetch.New(three(), 9, true)
			for _, x := range append([]api.Answer{unwrit, data(strings.Repeat("x", maxRecord))}, behind...) {
				f.Hear(x, true)
			}
			l = append(l, f)
		}
		expectLittle(t, show(l[0]), before, many*maxRecord/2)
		runtime.KeepAlive(l)
	}
}

// inUse is how many bytes are in use.
func inUse() int {
	var m runtime.MemStats
	runtime.GC()
	runtime.GC()
	runtime.ReadMemStats(&m)
	return int(m.HeapAlloc)
}
