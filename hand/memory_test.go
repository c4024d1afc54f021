package hand_test

import (
	"reflect"
	"runtime"
	"slices"
	"strings"
	"testing"
	"unsafe"

	"escheat/api"
	"escheat/hand"
)

// scribbleOver writes over all lists of p, and their spare room.
func scribbleOver(p api.Projection) {
	l := p.Chains[:cap(p.Chains)]
	for i, chain := range l {
		chain = chain[:cap(chain)]
		for j := range chain {
			chain[j] = 14
		}
		l[i] = []int{13}
	}
}

// scribbleOverAll writes over questions that were told, with all lists in them and all spare room.
func scribbleOverAll(l []api.Ask) {
	l = l[:cap(l)]
	for k := range l {
		scribbleOver(l[k].P)
		l[k] = full(api.AskSeal, 99)
	}
}

// roomy is p in lists that have spare room, in which there is something.
func roomy(p api.Projection) api.Projection {
	q := of(p.Epoch, make([][]int, 0, len(p.Chains)+3)...)
	for _, chain := range append(slices.Clone(p.Chains), []int{1, 2}, []int{3}, nil) {
		q.Chains = append(q.Chains, append(append(make([]int, 0, len(chain)+3), chain...), 4, 5, 6)[:len(chain)])
	}
	q.Chains = q.Chains[:len(p.Chains)]
	return q
}

// room is all of p with the spare room of its lists.
func room(p api.Projection) api.Projection {
	q := of(p.Epoch, slices.Clone(p.Chains[:cap(p.Chains)])...)
	for i, chain := range q.Chains {
		q.Chains[i] = slices.Clone(chain[:cap(chain)])
	}
	return q
}

// plans are projections of which the first three come one behind the other, and some that are none.
func plans() []api.Projection {
	return []api.Projection{
		of(1, []int{0, 1, 2}, []int{3}), of(2, []int{1, 2}, []int{3, 4, 5}), of(3, []int{2}, []int{5, 6}), of(1, []int{1, 0}), {}, of(7, nil, []int{}, []int{9}), of(-1, []int{-5, 99, 99}), of(0, slices.Repeat([][]int{{8}}, 40)...),
	}
}

// P14.2, P14.3: what Ask was handed is nobody's but the caller's: it is changed neither by Ask nor by what comes behind it.
func TestNobodyWrites(t *testing.T) {
	for _, fate := range append(slices.Clone(fates), others...) {
		for _, kind := range slices.Concat(kinds, foreign) {
			b := made(t, of(0, []int{0, 1}, []int{3}), 4)
			var given, before []api.Projection
			for i, p := range plans() {
				p := roomy(p)
				given, before = append(given, p), append(before, room(p))
				b.ask(api.Ask{Kind: kind, Unit: i, Epoch: i, Page: i, Size: i, N: i, Data: "a", P: p}, fate)
			}
			b.do(2)
			b.drop(1)
			b.ask(changeOf(plans()[0]), api.Held)
			for range 4 {
				b.do(1)
				b.do(0)
			}
			b.same()
			for i, p := range given {
				if got := room(p); !reflect.DeepEqual(got, before[i]) {
					t.Errorf("kind %d, fate %d: what was handed in is %v, not %v", kind, fate, got, before[i])
				}
			}
		}
	}
}

// P14.2, P14.3: what Ask was handed may be written over, its spare room too: what is held stays as it was, and is done so.
func TestHandedIn(t *testing.T) {
	for _, end := range []int{0, 1} {
		b := made(t, of(0, []int{0, 1}, []int{3}), 4)
		var want []api.Ask
		for _, kind := range []int{api.AskChange, api.AskLayout, 0, api.AskWrite, api.AskChange} {
			for _, p := range plans() {
				a := api.Ask{Kind: kind, Unit: 3, Page: 5, Data: "a", P: roomy(p)}
				want = append(want, copied(a))
				b.ask(a, api.Held)
				scribbleOver(a.P)
				expectHeld(t, b.h, want...)
				b.sameHeld()
			}
		}
		last := end * (len(plans()) - 1)
		for range 3 {
			b.do(last)
			b.same()
		}
		for b.do(0) {
			b.same()
		}
	}
	h := hand.New(begun(t, of(0, []int{0, 1}, []int{3}), 4))
	for _, p := range plans()[:3] {
		q := roomy(p)
		expectNone(t, h, changeOf(q), api.Held)
		scribbleOver(q)
		if !h.Do(0) || !reflect.DeepEqual(h.Nodes().Layout().Now(), p) {
			t.Errorf("%v was handed in, and %v counts", p, h.Nodes().Layout().Now())
		}
	}
	for i, p := range []api.Projection{of(4, []int{2, 7}, []int{5, 6}), of(5, []int{7}, []int{6, 8})} {
		q := roomy(p)
		h.Ask(changeOf(q), []int{api.Heard, api.Deaf}[i])
		scribbleOver(q)
		if !reflect.DeepEqual(h.Nodes().Layout().Now(), p) {
			t.Errorf("%v was handed in, and %v counts", p, h.Nodes().Layout().Now())
		}
	}
}

// P14.2: one projection that is handed in often is held as many times.
func TestHandedInTwice(t *testing.T) {
	b := made(t, of(0, []int{0, 1}, []int{3}), 4)
	p := of(1, []int{0, 1, 2}, []int{3})
	for unit := range 4 {
		p.Chains[0][2] = unit + 4
		b.ask(changeOf(p), api.Held)
	}
	p.Chains[1] = []int{9}
	for k, a := range b.h.Held() {
		if want := changeOf(of(1, []int{0, 1, k + 4}, []int{3})); !alike(a, want) {
			t.Errorf("held as %d: %s, not %s", k, asked(a), asked(want))
		}
	}
	b.do(2)
	b.same()
	if now := b.n.Layout().Now(); !reflect.DeepEqual(now, of(1, []int{0, 1, 6}, []int{3})) {
		t.Errorf("%v counts", now)
	}
}

// P14.2, P14.3: what Held told may be written over, its spare room and the chains in it too: what is held stays as it was, and is done so.
func TestTold(t *testing.T) {
	b := made(t, of(0, []int{0, 1}, []int{3}), 4)
	turn := func() {
		t.Helper()
		scribbleOverAll(b.h.Held())
		told := b.h.Held()
		told = append(append(told, full(1, 1)), full(2, 2))
		for k := range told {
			told[k].P.Chains = append(told[k].P.Chains, []int{1, 2, 3})
			for i := range told[k].P.Chains {
				told[k].P.Chains[i] = append(told[k].P.Chains[i], 4, 5)
			}
		}
		scribbleOverAll(told)
		b.same()
	}
	turn()
	for i, p := range plans() {
		b.ask(changeOf(roomy(p)), api.Held)
		turn()
		b.ask(full(kinds[i], i), api.Held)
		turn()
	}
	for _, k := range []int{15, 1, 3, 6, 0, 0, 2, 8, 7, 6} {
		b.drop(k)
		turn()
		b.do(k / 2)
		turn()
	}
	for b.do(0) {
		turn()
	}
	if now := b.n.Layout().Now(); now.Epoch == 0 {
		t.Errorf("no change was done")
	}
}

// P14.2: what Held told stays as it was told, whatever is asked, done and dropped behind it, and however other answers are written over.
func TestToldStays(t *testing.T) {
	b := made(t, of(0, []int{0, 1}, []int{3}), 4)
	var kept, want [][]api.Ask
	keep := func() {
		kept = append(kept, b.h.Held())
		var l []api.Ask
		for _, a := range b.m.held() {
			l = append(l, copied(a))
		}
		want = append(want, l)
	}
	for i, p := range plans() {
		b.ask(changeOf(roomy(p)), api.Held)
		keep()
		if i%3 == 1 {
			b.drop(i / 2)
			keep()
		}
	}
	for len(b.m.waiting()) > 0 {
		b.do(len(b.m.waiting()) / 2)
		keep()
		b.ask(full(1, 1), api.Held)
		b.drop(len(b.m.waiting()) - 1)
		scribbleOverAll(b.h.Held())
	}
	for i, l := range kept {
		if !slices.EqualFunc(l, want[i], alike) {
			t.Errorf("what was told as %v is %v", want[i], l)
		}
		scribbleOverAll(l)
	}
}

// P14.2: no two lists of what Held told share memory, their spare room included.
func TestToldApart(t *testing.T) {
	h := hand.New(begun(t, of(0, []int{0, 1}, []int{3}), 4))
	for _, p := range plans() {
		h.Ask(changeOf(p), api.Held)
	}
	met := map[*int]int{}
	lists := map[*[]int]int{}
	for turn := range 2 {
		l := h.Held()
		for k, a := range l[:cap(l)] {
			chains := a.P.Chains[:cap(a.P.Chains)]
			for i, chain := range chains {
				lists[&chains[i]]++
				chain = chain[:cap(chain)]
				for j := range chain {
					if met[&chain[j]]++; met[&chain[j]] > 1 {
						t.Errorf("told %d times: chain %d of %d shares what was told", turn+1, i, k)
					}
				}
			}
		}
	}
	for _, times := range lists {
		if times > 1 {
			t.Errorf("two lists of chains that were told are one")
		}
	}
}

// P14.2: an answer that is heard is the caller's own: neither the nodes nor what is held see it written over.
func TestHeardApart(t *testing.T) {
	b := made(t, of(0, []int{0, 1}, []int{3}), 4)
	next := roomy(plans()[0])
	b.ask(changeOf(next), api.Held)
	for _, a := range []api.Ask{lookOf(), changeOf(plans()[3]), changeOf(next), lookOf(), changeOf(next)} {
		got, _ := b.ask(a, api.Heard)
		scribbleOver(got.P)
		b.same()
	}
	if want := plans()[0]; !reflect.DeepEqual(of(next.Epoch, next.Chains...), want) {
		t.Errorf("what was handed in is %v, not %v", next, want)
	}
}

// P14.2, P14.3: a text that is held is not the caller's, and one that is told is the caller's own.
func TestTexts(t *testing.T) {
	n := begun(t, of(0, []int{0, 1}), 9)
	h := hand.New(n)
	bytes := []byte("hello")
	for at := range 3 {
		expectNone(t, h, to(5, api.AskWrite, 0, at, unsafe.String(&bytes[0], len(bytes))), api.Held)
	}
	copy(bytes, "later")
	for range 2 {
		for _, a := range h.Held() {
			if a.Data != "hello" {
				t.Fatalf("held: %q", a.Data)
			}
			copy(unsafe.Slice(unsafe.StringData(a.Data), len(a.Data)), "never")
		}
	}
	h.Drop(1)
	for h.Do(0) {
	}
	for at, want := range []string{"hello", "", "hello"} {
		if got, _ := n.Unit(5).Pages().Read(at); got != want {
			t.Errorf("page %d is %q, not %q", at, got, want)
		}
	}
	if string(bytes) != "later" {
		t.Errorf("what was handed in is %q", bytes)
	}
}

// P14.3: what is held no longer is not kept.
func TestNothingKept(t *testing.T) {
	const size = 1 << 23
	text := strings.Repeat("x", size)
	h := hand.New(begun(t, of(0, []int{0, 1}), 1))
	for _, ks := range [][]int{{0, 0, 0}, {2, 1, 0}, {1, 1, 0}, {0, 1, 0}, {1, 0, 0}, {2, 0, 0}} {
		for _, end := range []func(int) bool{h.Do, h.Drop} {
			before := inUse()
			for page := range 3 {
				h.Ask(to(1, api.AskWrite, 0, page, text), api.Held)
			}
			if more := inUse() - before; more < 2*size {
				t.Fatalf("three texts are held, and take %d bytes", more)
			}
			for i, k := range ks {
				end(k)
				if more, most := inUse()-before, (2-i)*size+size/2; more > most {
					t.Errorf("%v: of those that were held, %d are gone, and there are still %d bytes", ks, i+1, more)
				}
			}
		}
	}
	runtime.KeepAlive(h)
}

// inUse is how many bytes are in use.
func inUse() int {
	var m runtime.MemStats
	runtime.GC()
	runtime.GC()
	runtime.ReadMemStats(&m)
	return int(m.HeapAlloc)
}
