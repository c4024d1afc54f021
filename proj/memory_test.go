package proj_test

import (
	"fmt"
	"slices"
	"testing"
	"unsafe"

	"escheat/api"
	"escheat/proj"
)

// scribble writes v over all numbers of l, and its spare room.
func scribble(l []int, v int) {
	l = l[:cap(l)]
	for i := range l {
		l[i] = v
	}
}

// scribbleOver writes over all lists of p, and their spare room.
func scribbleOver(p api.Projection) {
	l := p.Chains[:cap(p.Chains)]
	for i, chain := range l {
		scribble(chain, -77)
		l[i] = []int{-78}
	}
}

// roomy is p in lists that have spare room, in which there is something.
func roomy(p api.Projection) api.Projection {
	q := api.Projection{Epoch: p.Epoch, Chains: make([][]int, 0, len(p.Chains)+3)}
	for _, chain := range append(slices.Clone(p.Chains), []int{1, 2}, []int{3}, nil) {
		q.Chains = append(q.Chains, append(append(make([]int, 0, len(chain)+3), chain...), 4, 5, 6)[:len(chain)])
	}
	q.Chains = q.Chains[:len(p.Chains)]
	return q
}

// whole is all of p with the spare room of its lists.
func whole(p api.Projection) api.Projection {
	q := of(p.Epoch, slices.Clone(p.Chains[:cap(p.Chains)])...)
	for i, chain := range q.Chains {
		q.Chains[i] = slices.Clone(chain[:cap(chain)])
	}
	return q
}

// P7.1: a copy, and what it was made of, are changed apart from each other, and so are its own lists.
func TestCopyIsNew(t *testing.T) {
	for _, was := range anything() {
		p := roomy(was)
		before := whole(p)
		q, other := proj.Copy(p), proj.Copy(p)
		scribbleOver(q)
		if !alike(whole(p), before) || !alike(other, was) || !alike(proj.Copy(p), was) {
			t.Errorf("a change of a copy of %.200v is seen elsewhere", fmt.Sprint(was))
		}
		scribbleOver(p)
		if !alike(other, was) {
			t.Errorf("a change of %.200v is seen in its copy", fmt.Sprint(was))
		}
		expectApart(t, other)
	}
}

// expectApart holds that no two lists of p share memory, their spare room included.
func expectApart(t *testing.T, p api.Projection) {
	t.Helper()
	for i, chain := range p.Chains {
		scribble(chain, i)
	}
	for i, chain := range p.Chains {
		if !all(chain[:cap(chain)], func(u int) bool { return u == i }) {
			t.Errorf("chain %d of %d shares memory with another one", i, len(p.Chains))
		}
	}
}

// P7.2: what Decode tells is the caller's own.
func TestDecodedIsNew(t *testing.T) {
	for _, p := range goods() {
		b := []byte(words(p))
		s := unsafe.String(&b[0], len(b))
		one, _ := proj.Decode(s)
		other, _ := proj.Decode(s)
		scribbleOver(one)
		again, _ := proj.Decode(s)
		if !alike(other, p) || !alike(again, p) || s != words(p) {
			t.Errorf("a change of what Decode told of %x is seen elsewhere", words(p))
		}
		clear(b)
		if !alike(other, p) {
			t.Errorf("%x was kept by what Decode told of it", words(p))
		}
		expectApart(t, other)
	}
}

// P7.1: what Units tells is the caller's own.
func TestUnitsAreNew(t *testing.T) {
	for _, was := range anything() {
		p := roomy(was)
		before := whole(p)
		one, other := proj.Units(p), proj.Units(p)
		scribble(one, -77)
		if !slices.Equal(other, unitsOf(was)) || !slices.Equal(proj.Units(p), unitsOf(was)) || !alike(whole(p), before) {
			t.Errorf("a change of what Units told of %.200v is seen elsewhere", fmt.Sprint(was))
		}
		scribbleOver(p)
		if !slices.Equal(other, unitsOf(was)) {
			t.Errorf("a change of %.200v is seen in its units", fmt.Sprint(was))
		}
	}
}

// P7.2
func TestTextsAreNew(t *testing.T) {
	for _, p := range goods() {
		a, _ := proj.Encode(p)
		b, _ := proj.Encode(p)
		if a != b || unsafe.StringData(a) == unsafe.StringData(b) {
			t.Errorf("two texts of %v share memory, or differ", p)
		}
	}
}

// P7.1, P7.2: what was handed in is as it was, its spare room included.
func TestHandedInStays(t *testing.T) {
	l := append(anything(), ahead(), of(5, []int{3, 8, 9}, []int{4, 12}, []int{6, 14}, []int{7, 15}))
	for i, was := range l {
		p, q := roomy(was), roomy(l[(i+1)%len(l)])
		p.Epoch, q.Epoch = 4, 5
		before, behind := whole(p), whole(q)
		proj.Good(p)
		proj.Next(p, q)
		proj.Next(q, p)
		proj.Encode(p)
		proj.Units(p)
		proj.Copy(p)
		if !alike(whole(p), before) || !alike(whole(q), behind) {
			t.Errorf("%.200v, %.200v: one of them is not as it was", fmt.Sprint(was), fmt.Sprint(l[(i+1)%len(l)]))
		}
	}
}

// P7.1, P7.2: what stands in spare room does not count.
func TestSpareRoomDoesNotCount(t *testing.T) {
	for _, was := range anything() {
		p := roomy(was)
		expectAsWords(t, p)
		if !slices.Equal(proj.Units(p), unitsOf(was)) || !alike(proj.Copy(p), was) {
			t.Errorf("%.200v is told otherwise with spare room", fmt.Sprint(was))
		}
	}
	q := roomy(of(5, []int{1, 2}, []int{4, 12}, []int{6}, []int{7, 15}))
	expectNext(t, roomy(ahead()), q, true)
}

// P7.1, P7.2: what was called ahead changes no answer.
func TestCallsApart(t *testing.T) {
	p, q := ahead(), of(5, []int{1}, []int{5, 4}, []int{6, 8}, []int{7})
	for range 3 {
		for _, x := range anything()[:60] {
			proj.Good(x)
			proj.Next(p, x)
			proj.Next(x, q)
			proj.Encode(x)
			proj.Decode(words(x) + "\x00")
			proj.Units(x)
			proj.Copy(x)
			expectNext(t, p, q, true)
			expectNext(t, q, p, false)
			expectGood(t, p, words(p))
			if !slices.Equal(proj.Units(q), []int{1, 4, 5, 6, 7, 8}) || !alike(proj.Copy(q), q) {
				t.Errorf("behind calls with %.200v other units are told", fmt.Sprint(x))
			}
		}
	}
}
