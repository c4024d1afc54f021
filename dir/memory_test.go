package dir_test

import (
	"math/rand"
	"runtime"
	"slices"
	"strings"
	"testing"
	"unsafe"

	"escheat/api"
	"escheat/dir"
)

// over is a text that lies in bytes which may be written over.
func over(s string) ([]byte, string) {
	bytes := []byte(s)
	return bytes, unsafe.String(&bytes[0], len(bytes))
}

// bytesOf are those in which a text lies.
func bytesOf(s string) []byte { return unsafe.Slice(unsafe.StringData(s), len(s)) }

// whole is a copy of l with its spare room.
func whole[T any](l []T) []T { return slices.Clone(l[:cap(l)]) }

// scribble writes over l, and its spare room.
func scribble[T any](l []T, something T) {
	l = l[:cap(l)]
	for i := range l {
		l[i] = something
	}
}

// some are a few entries: one inode in several directories, several in one.
func some(b *both) {
	for i, s := range names() {
		b.addOnly(1+i%4, s, 1+i%3)
	}
	b.look()
}

// P21.2: what was told (List, Of, All) may be written over, its spare room too, without a change of the Names.
func TestToldOver(t *testing.T) {
	b := newBoth(t)
	some(b)
	for range 3 {
		for v := range 6 {
			scribble(b.n.List(v), "never")
			scribble(b.n.Of(v), entry(-7, "never", -7))
		}
		scribble(b.n.All(), entry(-7, "never", -7))
		b.last = "writing over what was told"
		b.look()
	}
}

// P21.2: the texts that were told, too
func TestTextsOver(t *testing.T) {
	b := newBoth(t)
	some(b)
	for v := range 6 {
		for _, s := range b.n.List(v) {
			clear(bytesOf(s))
		}
		for _, e := range b.n.Of(v) {
			clear(bytesOf(e.Name))
		}
	}
	for _, e := range b.n.All() {
		clear(bytesOf(e.Name))
	}
	b.last = "writing over the names that were told"
	b.look()
}

// P21.2: what was told ahead is as it was, whatever is called behind it.
func TestToldStays(t *testing.T) {
	r := rand.New(rand.NewSource(213))
	for range 40 {
		b := newBoth(t)
		some(b)
		list, of, all := b.n.List(1), b.n.Of(1), b.n.All()
		wantList, wantOf, wantAll := whole(list), whole(of), whole(all)
		for range 60 {
			b.anyCall(r, 4, 3, names())
		}
		if !slices.Equal(whole(list), wantList) || !slices.Equal(whole(of), wantOf) || !slices.Equal(whole(all), wantAll) {
			t.Fatalf("what was told ahead is otherwise: %v, %v, %v", list, of, all)
		}
	}
}

// met counts how often each place in memory is met.
type met map[any]int

func (m met) names(l []string) {
	all := l[:cap(l)]
	for i := range all {
		m[&all[i]]++
	}
	for _, s := range l {
		m[unsafe.StringData(s)]++
	}
}

func (m met) entries(l []dir.Entry) {
	all := l[:cap(l)]
	for i := range all {
		m[&all[i]]++
	}
	for _, e := range l {
		m[unsafe.StringData(e.Name)]++
	}
}

// P21.1, P21.2: nothing that was told shares memory with something else that was, nor with what was handed in.
func TestNoneShared(t *testing.T) {
	n, m := dir.New(), met{}
	for i, s := range names() {
		m[unsafe.StringData(s)]++
		expect(t, "Add", n.Add(1+i%4, s, 1+i%3), api.OK)
	}
	for range 2 {
		for v := range 6 {
			m.names(n.List(v))
			m.entries(n.Of(v))
		}
		m.entries(n.All())
	}
	for place, times := range m {
		if times > 1 {
			t.Fatalf("%p is met %d times", place, times)
		}
	}
}

// P21.1: the name that Add is handed may be written over then, and stands as it was; nothing is written over by the calls.
func TestHanded(t *testing.T) {
	b := newBoth(t)
	for i, s := range names() {
		bytes, text := over(s)
		expect(t, "Add", b.n.Add(1+i%4, text, 5), api.OK)
		expect(t, "Add", b.n.Add(1+i%4, text, 6), api.ErrTwice)
		expectFind(t, b.n, 1+i%4, text, 5)
		expect(t, "Drop", b.n.Drop(9, text), api.ErrNone)
		if text != s {
			t.Fatalf("it is %q, not %q", text, s)
		}
		copy(bytes, "________")
		expect(t, "Add by the words", b.w.add(1+i%4, s, 5), api.OK)
		b.last = "writing over the name that Add was handed"
		b.look()
	}
}

// P21.1 to P21.3: two know nothing of each other.
func TestApart(t *testing.T) {
	r := rand.New(rand.NewSource(214))
	b, c := newBoth(t), newBoth(t)
	some(b)
	c.look()
	c.fill(1, 2)
	b.look()
	for range 100 {
		b.anyCall(r, 4, 3, names())
		c.look()
		c.anyCall(r, 4, 3, names())
		b.look()
	}
}

// P21.1, P21.2: asking changes nothing, and the same is told however often it is asked.
func TestAsking(t *testing.T) {
	b := newBoth(t)
	some(b)
	for range 50 {
		b.look()
		for _, v := range numbers {
			b.lookIn(v)
			b.lookOf(v)
			expectNone(t, b.n, v, "never")
		}
	}
}

// P21.1: what comes to the same by other ways is told alike.
func TestSameByOtherWays(t *testing.T) {
	r := rand.New(rand.NewSource(215))
	for range 60 {
		b := newBoth(t)
		for range 60 {
			b.anyCall(r, 3, 3, names())
		}
		other := dir.New()
		for _, i := range r.Perm(len(b.w.entries)) {
			e := b.w.entries[i]
			expect(t, "Add", other.Add(e.Dir, e.Name, e.Ino), api.OK)
		}
		was := b.n
		b.n, b.last = other, "adding what was there"
		b.look()
		if !slices.Equal(was.All(), other.All()) {
			t.Fatalf("%s and %s", short(was.All()), short(other.All()))
		}
	}
}

// inUse is how many bytes are in use.
func inUse() int {
	var m runtime.MemStats
	runtime.GC()
	runtime.GC()
	runtime.ReadMemStats(&m)
	return int(m.HeapAlloc)
}

// P21.1: nothing is kept of names that were dropped, nor of their directories.
func TestNothingKept(t *testing.T) {
	n, before := dir.New(), inUse()
	for i := range 100000 {
		n.Add(1+i, name(i%999), 1+i)
		n.Drop(2+i, name(i%999))
		n.Drop(1+i, "never")
		n.Find(3+i, "never")
		n.Count(4 + i)
		n.Drop(1+i, name(i%999))
	}
	if more := inUse() - before; more > 1<<18 {
		t.Errorf("there are %d bytes", more)
	}
	expectAll(t, n)
}

// P21.1: of a name that is a piece of a long text the rest is not held.
func TestRestNotHeld(t *testing.T) {
	n, before := dir.New(), inUse()
	for i := range 20 {
		long := strings.Repeat("a", 1<<20) + name(i)
		expect(t, "Add", n.Add(1, long[1<<20:], 2), api.OK)
	}
	if more := inUse() - before; more > 1<<19 {
		t.Errorf("there are %d bytes", more)
	}
	if got := n.Count(1); got != 20 {
		t.Errorf("Count is %d", got)
	}
}

// P21.2: what is told holds no more than it tells.
func TestToldAlone(t *testing.T) {
	n := dir.New()
	for d := range 2000 {
		for i := range 20 {
			n.Add(1+d, name(i), 1+d)
		}
	}
	var kept []any
	before := inUse()
	for d := range 20 {
		kept = append(kept, n.List(1+d), n.Of(1+d))
	}
	if more := inUse() - before; more > 1<<18 {
		t.Errorf("there are %d bytes", more)
	}
	runtime.KeepAlive(kept)
	runtime.KeepAlive(n)
}
