package extent_test

import (
	"math/rand"
	"runtime"
	"slices"
	"testing"

	"escheat/api"
	"escheat/extent"
)

// roomy is l with spare room, in which there is something.
func roomy(l []api.Part) []api.Part {
	return append(append(make([]api.Part, 0, len(l)+70), l...), few(70, 3, 3)...)[:len(l)]
}

// whole is a copy of l with its spare room.
func whole(l []api.Part) []api.Part { return slices.Clone(l[:cap(l)]) }

// scribble writes over l, and its spare room.
func scribble(l []api.Part) {
	l = l[:cap(l)]
	for i := range l {
		l[i] = part(-7, -7, -7, -7)
	}
}

// calls are some of those that tell lists, each with what it is to tell of l.
func calls() []func(l []api.Part) ([]api.Part, []api.Part) {
	var all []func(l []api.Part) ([]api.Part, []api.Part)
	for _, x := range []api.Part{part(0, 1, 1, 0), part(3, 9, 1, 3), part(12, 4, 5, 12), part(0, maxWrite, 5, 0), part(5000, 1, 5, 0), part(maxFile-1, 1, 5, 0), {}, part(-1, 1, 1, 1)} {
		all = append(all, func(l []api.Part) ([]api.Part, []api.Part) {
			got, _ := extent.Put(l, x)
			want, _ := putOf(l, x)
			return got, want
		})
	}
	for _, v := range []int{-1, 0, 5, 12, 300, maxFile, maxFile + 1} {
		all = append(all, func(l []api.Part) ([]api.Part, []api.Part) { return extent.Cut(l, v), cutOf(l, v) })
		for _, n := range []int{0, 1, 7, 300, maxFile} {
			all = append(all, func(l []api.Part) ([]api.Part, []api.Part) { return extent.Plan(l, v, n), planOf(l, v, n) })
		}
	}
	for _, m := range []api.Move{{Addr: 5, Len: 1}, {Addr: 5, Len: maxWrite}, {Addr: 1, From: 2, Len: 3, At: 9}, {Addr: 77, Len: 5}, {}} {
		for _, to := range []int{-1, 0, 1, 5} {
			all = append(all, func(l []api.Part) ([]api.Part, []api.Part) {
				got, _ := extent.Move(l, m, to)
				want, _ := moveOf(l, m, to)
				return got, want
			})
		}
	}
	return all
}

// lists are some that are good, and some that are not.
func lists() [][]api.Part {
	all := append(goods(), parts(part(0, 10, 1, 0), part(20, 10, 1, 100)), few(maxParts, 2, 3))
	for i, l := range bads() {
		if i%9 == 0 && len(l) < 1000 {
			all = append(all, l)
		}
	}
	return all
}

// P19.1 to P19.4: what is handed in is as it was, its spare room too, whatever is called; and what stands in spare room does not count.
func TestHandedInStays(t *testing.T) {
	for _, was := range lists() {
		l := roomy(was)
		before := whole(l)
		for i, call := range calls() {
			got, _ := call(l)
			if _, want := call(was); !slices.Equal(got, want) {
				t.Errorf("call %d of %s with spare room: %s, not %s", i, short(was), short(got), short(want))
			}
			extent.Good(l)
			extent.End(l)
			if !slices.Equal(whole(l), before) {
				t.Fatalf("call %d of %s: it is %s", i, short(was), short(l))
			}
		}
		expectGood(t, l, areParts(was))
		expectEnd(t, l, endOf(was))
	}
}

// P19.2 to P19.4: what is told is new memory, its spare room too: it may be written over, and what was handed in, and what else was told, stays as it was.
func TestToldIsNew(t *testing.T) {
	for _, was := range lists() {
		for i, call := range calls() {
			l := roomy(was)
			before := whole(l)
			one, want := call(l)
			other, _ := call(l)
			scribble(one)
			if !slices.Equal(whole(l), before) || !slices.Equal(other, want) {
				t.Fatalf("call %d of %s: what was told is written over, and that is seen elsewhere", i, short(was))
			}
			scribble(l)
			if !slices.Equal(other, want) {
				t.Fatalf("call %d of %s: what was handed in is written over, and that is seen in what was told", i, short(was))
			}
		}
	}
}

// P19.2 to P19.4: no two that were told share memory, and none with what was handed in, also where nothing changes.
func TestNoneShared(t *testing.T) {
	for _, was := range lists() {
		l := roomy(was)
		met := map[*api.Part]int{}
		all := [][]api.Part{l}
		for _, call := range calls() {
			one, _ := call(l)
			other, _ := call(l)
			all = append(all, one, other)
		}
		for _, told := range all {
			told = told[:cap(told)]
			for i := range told {
				met[&told[i]]++
			}
		}
		for _, times := range met {
			if times > 1 {
				t.Fatalf("two lists that were told of %s are one", short(was))
			}
		}
	}
}

// P19.1 to P19.4: what was called ahead changes no answer, and the same is told however often it is asked.
func TestCallsApart(t *testing.T) {
	r := rand.New(rand.NewSource(198))
	all, each := lists(), calls()
	for range 2000 {
		l, call := anyOf(r, all...), anyOf(r, each...)
		if got, want := call(l); !slices.Equal(got, want) {
			t.Errorf("of %s: %s, not %s", short(l), short(got), short(want))
		}
	}
}

// P19.1 to P19.4: nothing is kept from call to call.
func TestNothingKept(t *testing.T) {
	before := inUse()
	for _, l := range lists() {
		for _, call := range calls() {
			call(roomy(l))
		}
	}
	if more := inUse() - before; more > 1<<18 {
		t.Errorf("there are %d bytes", more)
	}
}

// inUse is how many bytes are in use.
func inUse() int {
	var m runtime.MemStats
	runtime.GC()
	runtime.GC()
	runtime.ReadMemStats(&m)
	return int(m.HeapAlloc)
}
